/- Opening inputs: structs that hold a struct. -/
import Derived.Test.YtakcggldilbilaaDoorVdDoorN
import Derived.Test.YtakcggldilbilaaDoorVdI1
set_option linter.unusedVariables false
namespace Go.Vd
open Go.Proofs Go.ChangeShapes Go.WideShapes Go.ChangeAt Go.RowKit Go.Joins Go.Deep Go.WideElems
section
variable {H : Type} {enc : TypeId × Value → H} {P : Program}
theorem array7 {α : Type} {cs : Array α} (h : cs.size = 7) : ∃ c0 c1 c2 c3 c4 c5 c6, cs = #[c0, c1, c2, c3, c4, c5, c6] := by
  obtain ⟨l⟩ := cs
  match l, h with
  | [c0, c1, c2, c3, c4, c5, c6], _ => exact ⟨c0, c1, c2, c3, c4, c5, c6, rfl⟩
theorem array8 {α : Type} {cs : Array α} (h : cs.size = 8) : ∃ c0 c1 c2 c3 c4 c5 c6 c7, cs = #[c0, c1, c2, c3, c4, c5, c6, c7] := by
  obtain ⟨l⟩ := cs
  match l, h with
  | [c0, c1, c2, c3, c4, c5, c6, c7], _ => exact ⟨c0, c1, c2, c3, c4, c5, c6, c7, rfl⟩
theorem rel_agg7 {w : World} {ρ : Nat → Value} {rw N : Nat → Prop} {u0 u1 u2 u3 u4 u5 u6 : Value} {s0 s1 s2 s3 s4 s5 s6 : SV} (h0 : one u0) (h1 : one u1) (h2 : one u2) (h3 : one u3) (h4 : one u4) (h5 : one u5) (h6 : one u6) (r0 : Rel w ρ rw N u0 s0) (r1 : Rel w ρ rw N u1 s1) (r2 : Rel w ρ rw N u2 s2) (r3 : Rel w ρ rw N u3 s3) (r4 : Rel w ρ rw N u4 s4) (r5 : Rel w ρ rw N u5 s5) (r6 : Rel w ρ rw N u6 s6) : Rel w ρ rw N (.agg #[u0, u1, u2, u3, u4, u5, u6]) (.agg [s0, s1, s2, s3, s4, s5, s6]) := by
  refine .agg _ _ rfl ?_ ?_
  · intro v hv
    simp at hv
    rcases hv with rfl | rfl | rfl | rfl | rfl | rfl | rfl <;> assumption
  · intro i v s hv hs
    match i with
    | 0 => simp at hv hs; subst hv hs; exact r0
    | 1 => simp at hv hs; subst hv hs; exact r1
    | 2 => simp at hv hs; subst hv hs; exact r2
    | 3 => simp at hv hs; subst hv hs; exact r3
    | 4 => simp at hv hs; subst hv hs; exact r4
    | 5 => simp at hv hs; subst hv hs; exact r5
    | 6 => simp at hv hs; subst hv hs; exact r6
    | n + 7 => simp at hv
theorem rel_agg8 {w : World} {ρ : Nat → Value} {rw N : Nat → Prop} {u0 u1 u2 u3 u4 u5 u6 u7 : Value} {s0 s1 s2 s3 s4 s5 s6 s7 : SV} (h0 : one u0) (h1 : one u1) (h2 : one u2) (h3 : one u3) (h4 : one u4) (h5 : one u5) (h6 : one u6) (h7 : one u7) (r0 : Rel w ρ rw N u0 s0) (r1 : Rel w ρ rw N u1 s1) (r2 : Rel w ρ rw N u2 s2) (r3 : Rel w ρ rw N u3 s3) (r4 : Rel w ρ rw N u4 s4) (r5 : Rel w ρ rw N u5 s5) (r6 : Rel w ρ rw N u6 s6) (r7 : Rel w ρ rw N u7 s7) : Rel w ρ rw N (.agg #[u0, u1, u2, u3, u4, u5, u6, u7]) (.agg [s0, s1, s2, s3, s4, s5, s6, s7]) := by
  refine .agg _ _ rfl ?_ ?_
  · intro v hv
    simp at hv
    rcases hv with rfl | rfl | rfl | rfl | rfl | rfl | rfl | rfl <;> assumption
  · intro i v s hv hs
    match i with
    | 0 => simp at hv hs; subst hv hs; exact r0
    | 1 => simp at hv hs; subst hv hs; exact r1
    | 2 => simp at hv hs; subst hv hs; exact r2
    | 3 => simp at hv hs; subst hv hs; exact r3
    | 4 => simp at hv hs; subst hv hs; exact r4
    | 5 => simp at hv hs; subst hv hs; exact r5
    | 6 => simp at hv hs; subst hv hs; exact r6
    | 7 => simp at hv hs; subst hv hs; exact r7
    | n + 8 => simp at hv
theorem open_entry {W : World} {b0 base : Nat} {spare : Nat → Bool} {held : Bool} {r : Reach} {t : TypeId} {f0 f1 f2 f3 f4 f5 f6 : Field} {g00 g01 : Field} {v : Value} {d : DataW H} {p : List MemPlace} (hs : P.underlying t = some (.struct #[f0, f1, f2, f3, f4, f5, f6])) (hC : P.cellsOf t = 8)
    (o0 : f0.offset = 0) (k0 : P.cellsOf f0.type = 2) (o1 : f1.offset = 2) (k1 : P.cellsOf f1.type = 1) (o2 : f2.offset = 3) (k2 : P.cellsOf f2.type = 1) (o3 : f3.offset = 4) (k3 : P.cellsOf f3.type = 1) (o4 : f4.offset = 5) (k4 : P.cellsOf f4.type = 1) (o5 : f5.offset = 6) (k5 : P.cellsOf f5.type = 1) (o6 : f6.offset = 7) (k6 : P.cellsOf f6.type = 1) (hs0 : P.underlying f0.type = some (.struct #[g00, g01])) (hone0 : oneCellFields P #[g00, g01] = true) 
    (hv : Value.okWide P W r b0 t v) (h : DataW.Trod enc P W base spare held t v d p) :
    ∃ (c0 c1 c2 c3 c4 c5 c6 c7 : Value) (y00 y01 y1 y2 y3 y4 y5 y6 : DataW H × List MemPlace) (n m0 : Nat), v = .agg #[c0, c1, c2, c3, c4, c5, c6, c7] ∧ d = .agg [.agg [y00.1, y01.1], y1.1, y2.1, y3.1, y4.1, y5.1, y6.1] ∧ p = (y00.2 ++ (y01.2)) ++ (y1.2 ++ (y2.2 ++ (y3.2 ++ (y4.2 ++ (y5.2 ++ (y6.2)))))) ∧
      DataW.trod enc P W base spare held m0 g00.type [c0] = some y00 ∧ DataW.trod enc P W base spare held m0 g01.type [c1] = some y01 ∧ DataW.trod enc P W base spare held n f1.type [c2] = some y1 ∧ DataW.trod enc P W base spare held n f2.type [c3] = some y2 ∧ DataW.trod enc P W base spare held n f3.type [c4] = some y3 ∧ DataW.trod enc P W base spare held n f4.type [c5] = some y4 ∧ DataW.trod enc P W base spare held n f5.type [c6] = some y5 ∧ DataW.trod enc P W base spare held n f6.type [c7] = some y6 := by
  obtain ⟨cs, rfl, hsz⟩ := okWide_struct hs hv
  obtain ⟨c0, c1, c2, c3, c4, c5, c6, c7, rfl⟩ := array8 (hsz.trans hC)
  obtain ⟨fuel, hf⟩ := h
  obtain ⟨xs, n, _, hx, hl, hlen, hf⟩ := DataW.trod_struct hs hf
  match xs, hlen with
  | [w0, w1, w2, w3, w4, w5, w6], _ =>
    simp only [Prod.mk.injEq] at hx
    have q0 := hf 0 f0 rfl
    rw [o0, k0] at q0
    have q1 := hf 1 f1 rfl
    rw [o1, k1] at q1
    have q2 := hf 2 f2 rfl
    rw [o2, k2] at q2
    have q3 := hf 3 f3 rfl
    rw [o3, k3] at q3
    have q4 := hf 4 f4 rfl
    rw [o4, k4] at q4
    have q5 := hf 5 f5 rfl
    rw [o5, k5] at q5
    have q6 := hf 6 f6 rfl
    rw [o6, k6] at q6
    have q0 : DataW.trod enc P W base spare held n f0.type [c0, c1] = some w0 := by simpa [Value.cells] using q0
    obtain ⟨xs0, m0, _, hx0, _, hlen0, hf0⟩ := DataW.trod_struct hs0 q0
    match xs0, hlen0 with
    | [y00, y01], _ =>
    obtain ⟨oo00, kk00⟩ := hone_of hone0 0 g00 rfl
    have qq00 := hf0 0 g00 rfl
    rw [oo00, kk00] at qq00
    obtain ⟨oo01, kk01⟩ := hone_of hone0 1 g01 rfl
    have qq01 := hf0 1 g01 rfl
    rw [oo01, kk01] at qq01
    subst hx0
    refine ⟨c0, c1, c2, c3, c4, c5, c6, c7, y00, y01, w1, w2, w3, w4, w5, w6, n, m0, rfl, by simpa using hx.1, by simpa using hx.2, by simpa [Value.cells] using qq00, by simpa [Value.cells] using qq01, by simpa [Value.cells] using q1, by simpa [Value.cells] using q2, by simpa [Value.cells] using q3, by simpa [Value.cells] using q4, by simpa [Value.cells] using q5, by simpa [Value.cells] using q6⟩
theorem open_event {W : World} {b0 base : Nat} {spare : Nat → Bool} {held : Bool} {r : Reach} {t : TypeId} {f0 f1 : Field} {g10 g11 g12 g13 g14 g15 : Field} {v : Value} {d : DataW H} {p : List MemPlace} (hs : P.underlying t = some (.struct #[f0, f1])) (hC : P.cellsOf t = 7)
    (o0 : f0.offset = 0) (k0 : P.cellsOf f0.type = 1) (o1 : f1.offset = 1) (k1 : P.cellsOf f1.type = 6) (hs1 : P.underlying f1.type = some (.struct #[g10, g11, g12, g13, g14, g15])) (hone1 : oneCellFields P #[g10, g11, g12, g13, g14, g15] = true) 
    (hv : Value.okWide P W r b0 t v) (h : DataW.Trod enc P W base spare held t v d p) :
    ∃ (c0 c1 c2 c3 c4 c5 c6 : Value) (y0 y10 y11 y12 y13 y14 y15 : DataW H × List MemPlace) (n m1 : Nat), v = .agg #[c0, c1, c2, c3, c4, c5, c6] ∧ d = .agg [y0.1, .agg [y10.1, y11.1, y12.1, y13.1, y14.1, y15.1]] ∧ p = y0.2 ++ ((y10.2 ++ (y11.2 ++ (y12.2 ++ (y13.2 ++ (y14.2 ++ (y15.2))))))) ∧
      DataW.trod enc P W base spare held n f0.type [c0] = some y0 ∧ DataW.trod enc P W base spare held m1 g10.type [c1] = some y10 ∧ DataW.trod enc P W base spare held m1 g11.type [c2] = some y11 ∧ DataW.trod enc P W base spare held m1 g12.type [c3] = some y12 ∧ DataW.trod enc P W base spare held m1 g13.type [c4] = some y13 ∧ DataW.trod enc P W base spare held m1 g14.type [c5] = some y14 ∧ DataW.trod enc P W base spare held m1 g15.type [c6] = some y15 := by
  obtain ⟨cs, rfl, hsz⟩ := okWide_struct hs hv
  obtain ⟨c0, c1, c2, c3, c4, c5, c6, rfl⟩ := array7 (hsz.trans hC)
  obtain ⟨fuel, hf⟩ := h
  obtain ⟨xs, n, _, hx, hl, hlen, hf⟩ := DataW.trod_struct hs hf
  match xs, hlen with
  | [w0, w1], _ =>
    simp only [Prod.mk.injEq] at hx
    have q0 := hf 0 f0 rfl
    rw [o0, k0] at q0
    have q1 := hf 1 f1 rfl
    rw [o1, k1] at q1
    have q1 : DataW.trod enc P W base spare held n f1.type [c1, c2, c3, c4, c5, c6] = some w1 := by simpa [Value.cells] using q1
    obtain ⟨xs1, m1, _, hx1, _, hlen1, hf1⟩ := DataW.trod_struct hs1 q1
    match xs1, hlen1 with
    | [y10, y11, y12, y13, y14, y15], _ =>
    obtain ⟨oo10, kk10⟩ := hone_of hone1 0 g10 rfl
    have qq10 := hf1 0 g10 rfl
    rw [oo10, kk10] at qq10
    obtain ⟨oo11, kk11⟩ := hone_of hone1 1 g11 rfl
    have qq11 := hf1 1 g11 rfl
    rw [oo11, kk11] at qq11
    obtain ⟨oo12, kk12⟩ := hone_of hone1 2 g12 rfl
    have qq12 := hf1 2 g12 rfl
    rw [oo12, kk12] at qq12
    obtain ⟨oo13, kk13⟩ := hone_of hone1 3 g13 rfl
    have qq13 := hf1 3 g13 rfl
    rw [oo13, kk13] at qq13
    obtain ⟨oo14, kk14⟩ := hone_of hone1 4 g14 rfl
    have qq14 := hf1 4 g14 rfl
    rw [oo14, kk14] at qq14
    obtain ⟨oo15, kk15⟩ := hone_of hone1 5 g15 rfl
    have qq15 := hf1 5 g15 rfl
    rw [oo15, kk15] at qq15
    subst hx1
    refine ⟨c0, c1, c2, c3, c4, c5, c6, w0, y10, y11, y12, y13, y14, y15, n, m1, rfl, by simpa using hx.1, by simpa using hx.2, by simpa [Value.cells] using q0, by simpa [Value.cells] using qq10, by simpa [Value.cells] using qq11, by simpa [Value.cells] using qq12, by simpa [Value.cells] using qq13, by simpa [Value.cells] using qq14, by simpa [Value.cells] using qq15⟩
end
end Go.Vd

set_option linter.unusedVariables false
namespace Go.Vd
open Go.Proofs Go.ChangeShapes Go.WideShapes Go.ChangeAt Go.RowKit Go.Joins Go.Deep Go.WideElems
section
variable {H : Type} {enc : TypeId × Value → H} {P : Program}
theorem ens_list {α : Type} {cs : List α} (h : cs.length = 8) : ∃ c0 c1 c2 c3 c4 c5 c6 c7, cs = [c0, c1, c2, c3, c4, c5, c6, c7] := by
  match cs, h with
  | [c0, c1, c2, c3, c4, c5, c6, c7], _ => exact ⟨c0, c1, c2, c3, c4, c5, c6, c7, rfl⟩
theorem ens_one {W : World} {ad : Addr} {n : Nat} {el : DataW H × List MemPlace} {e : TypeId} {f0 f1 f2 f3 f4 f5 f6 g00 g01 : Field} (hs : P.underlying e = some (.struct #[f0, f1, f2, f3, f4, f5, f6])) (hC : P.cellsOf e = 8)
    (o0 : f0.offset = 0) (k0 : P.cellsOf f0.type = 2) (hs0 : P.underlying f0.type = some (.struct #[g00, g01])) (hone0 : oneCellFields P #[g00, g01] = true) (o1 : f1.offset = 2) (k1 : P.cellsOf f1.type = 1) (o2 : f2.offset = 3) (k2 : P.cellsOf f2.type = 1) (o3 : f3.offset = 4) (k3 : P.cellsOf f3.type = 1) (o4 : f4.offset = 5) (k4 : P.cellsOf f4.type = 1) (o5 : f5.offset = 6) (k5 : P.cellsOf f5.type = 1) (o6 : f6.offset = 7) (k6 : P.cellsOf f6.type = 1) 
    (u0 : P.underlying g00.type = some (.int .u32)) (u1 : P.underlying g01.type = some (.string)) (u2 : P.underlying f1.type = some (.int .i64)) (u3 : P.underlying f2.type = some (.string)) (u4 : P.underlying f3.type = some (.int .u64)) (u5 : P.underlying f4.type = some (.string)) (u6 : P.underlying f5.type = some (.int .i64)) (u7 : P.underlying f6.type = some (.int .i64)) 
    (h : (W.cells? 0 ad 8).bind (DataW.trod enc P W 0 (fun _ => true) true n e) = some el) :
    ∃ x : Ent, ∀ j, j < 8 → ∃ v, W.cell? (ad.add j) = some v ∧ Vd.one v ∧ RelC W (fun _ => False) v (getAt (eE std fun _ => x) j) := by
  obtain ⟨cs, hcs, hf⟩ := Option.bind_eq_some_iff.1 h
  obtain ⟨_, hlen, hcell⟩ := World.cells?_some hcs
  obtain ⟨c0, c1, c2, c3, c4, c5, c6, c7, rfl⟩ := ens_list hlen
  obtain ⟨xs, n', _, hx, hl, hlen2, hf⟩ := DataW.trod_struct hs hf
  match xs, hlen2 with
  | [w0, w1, w2, w3, w4, w5, w6], _ =>
    have q0 := hf 0 f0 rfl
    rw [o0, k0] at q0
    have q0 : DataW.trod enc P W 0 (fun _ => true) true n' f0.type [c0, c1] = some w0 := by simpa using q0
    obtain ⟨xs0, m0, _, hx0, _, hlen0, hf0⟩ := DataW.trod_struct hs0 q0
    match xs0, hlen0 with
    | [y00, y01], _ =>
    obtain ⟨oo00, kk00⟩ := hone_of hone0 0 g00 rfl
    have qq00 := hf0 0 g00 rfl
    rw [oo00, kk00] at qq00
    obtain ⟨oo01, kk01⟩ := hone_of hone0 1 g01 rfl
    have qq01 := hf0 1 g01 rfl
    rw [oo01, kk01] at qq01
    have q1 := hf 1 f1 rfl
    rw [o1, k1] at q1
    have q1 : DataW.trod enc P W 0 (fun _ => true) true n' f1.type [c2] = some w1 := by simpa using q1
    have q2 := hf 2 f2 rfl
    rw [o2, k2] at q2
    have q2 : DataW.trod enc P W 0 (fun _ => true) true n' f2.type [c3] = some w2 := by simpa using q2
    have q3 := hf 3 f3 rfl
    rw [o3, k3] at q3
    have q3 : DataW.trod enc P W 0 (fun _ => true) true n' f3.type [c4] = some w3 := by simpa using q3
    have q4 := hf 4 f4 rfl
    rw [o4, k4] at q4
    have q4 : DataW.trod enc P W 0 (fun _ => true) true n' f4.type [c5] = some w4 := by simpa using q4
    have q5 := hf 5 f5 rfl
    rw [o5, k5] at q5
    have q5 : DataW.trod enc P W 0 (fun _ => true) true n' f5.type [c6] = some w5 := by simpa using q5
    have q6 := hf 6 f6 rfl
    rw [o6, k6] at q6
    have q6 : DataW.trod enc P W 0 (fun _ => true) true n' f6.type [c7] = some w6 := by simpa using q6
    obtain ⟨z0, e0, _, wf0⟩ := DataW.trod_int (cs := [c0]) u0 (by simpa using qq00)
    obtain ⟨s1, e1, _, _⟩ := DataW.trod_string (cs := [c1]) u1 (by simpa using qq01)
    obtain ⟨z2, e2, _, wf2⟩ := DataW.trod_int (cs := [c2]) u2 q1
    obtain ⟨s3, e3, _, _⟩ := DataW.trod_string (cs := [c3]) u3 q2
    obtain ⟨z4, e4, _, wf4⟩ := DataW.trod_int (cs := [c4]) u4 q3
    obtain ⟨s5, e5, _, _⟩ := DataW.trod_string (cs := [c5]) u5 q4
    obtain ⟨z6, e6, _, wf6⟩ := DataW.trod_int (cs := [c6]) u6 q5
    obtain ⟨z7, e7, _, wf7⟩ := DataW.trod_int (cs := [c7]) u7 q6
    simp only [List.cons.injEq, and_true] at e0 e1 e2 e3 e4 e5 e6 e7
    subst e0 e1 e2 e3 e4 e5 e6 e7
    refine ⟨⟨z0, s1.data.toList, z2, s3.data.toList, z4, s5.data.toList, z6, z7⟩, fun j hj => ?_⟩
    have hcj := hcell j (by omega)
    match j, hj with
    | 0, _ => exact ⟨.int .u32 z0, by simpa using hcj, rfl, .int _ _⟩
    | 1, _ => exact ⟨.string s1, by simpa using hcj, rfl, .str _⟩
    | 2, _ => exact ⟨.int .i64 z2, by simpa using hcj, rfl, .int _ _⟩
    | 3, _ => exact ⟨.string s3, by simpa using hcj, rfl, .str _⟩
    | 4, _ => exact ⟨.int .u64 z4, by simpa using hcj, rfl, .int _ _⟩
    | 5, _ => exact ⟨.string s5, by simpa using hcj, rfl, .str _⟩
    | 6, _ => exact ⟨.int .i64 z6, by simpa using hcj, rfl, .int _ _⟩
    | 7, _ => exact ⟨.int .i64 z7, by simpa using hcj, rfl, .int _ _⟩
theorem open_ens_trod {W : World} {t e : TypeId} {v : Value} {fuel : Nat} {x : DataW H × List MemPlace} (ht : P.underlying t = some (.slice e)) {f0 f1 f2 f3 f4 f5 f6 g00 g01 : Field} (hs : P.underlying e = some (.struct #[f0, f1, f2, f3, f4, f5, f6])) (hC : P.cellsOf e = 8)
    (o0 : f0.offset = 0) (k0 : P.cellsOf f0.type = 2) (hs0 : P.underlying f0.type = some (.struct #[g00, g01])) (hone0 : oneCellFields P #[g00, g01] = true) (o1 : f1.offset = 2) (k1 : P.cellsOf f1.type = 1) (o2 : f2.offset = 3) (k2 : P.cellsOf f2.type = 1) (o3 : f3.offset = 4) (k3 : P.cellsOf f3.type = 1) (o4 : f4.offset = 5) (k4 : P.cellsOf f4.type = 1) (o5 : f5.offset = 6) (k5 : P.cellsOf f5.type = 1) (o6 : f6.offset = 7) (k6 : P.cellsOf f6.type = 1) 
    (u0 : P.underlying g00.type = some (.int .u32)) (u1 : P.underlying g01.type = some (.string)) (u2 : P.underlying f1.type = some (.int .i64)) (u3 : P.underlying f2.type = some (.string)) (u4 : P.underlying f3.type = some (.int .u64)) (u5 : P.underlying f4.type = some (.string)) (u6 : P.underlying f5.type = some (.int .i64)) (u7 : P.underlying f6.type = some (.int .i64)) 
    (h : DataW.trod enc P W 0 (fun _ => true) true fuel t [v] = some x) :
    ∃ L : List (Ent), L.length ≤ maxLen ∧ Vd.one v ∧ RelC W (fun _ => False) v (rowS eE E0 8 std fun _ => L) := by
  rcases DataW.trod_slice ht h with ⟨hcs, _⟩ | ⟨a, len, cap, elems, rest, n, _, hcs, _, _, hl, hm, hel, hx, _, _⟩
  · simp only [List.cons.injEq, and_true] at hcs
    subst hcs
    exact ⟨[], Nat.zero_le _, rfl, .slc none 0 0 8 _ (fun _ _ => undef) (Nat.le_refl _) (fun i j hi => absurd hi (by omega)) (fun h => absurd h (by omega)) (fun i j hi => absurd hi (by omega))⟩
  · simp only [List.cons.injEq, and_true] at hcs
    subst hcs
    rw [hC] at hx
    have each : ∀ i, i < len → ∃ x : Ent, ∀ j, j < 8 → ∃ v, W.cell? ((a.add (i * 8)).add j) = some v ∧ Vd.one v ∧ RelC W (fun _ => False) v (getAt (eE std fun _ => x) j) := by
      intro i hi
      have h1 := hx i hi
      rw [List.getElem?_eq_getElem (by omega)] at h1
      exact ens_one hs hC o0 k0 hs0 hone0 o1 k1 o2 k2 o3 k3 o4 k4 o5 k5 o6 k6 u0 u1 u2 u3 u4 u5 u6 u7 h1
    obtain ⟨F, hF⟩ : ∃ F : Nat → Ent, ∀ i, i < len → ∀ j, j < 8 → ∃ v, W.cell? ((a.add (i * 8)).add j) = some v ∧ Vd.one v ∧ RelC W (fun _ => False) v (getAt (eE std fun _ => F i) j) :=
      ⟨fun i => if h : i < len then Classical.choose (each i h) else E0, fun i h => by simp only [dif_pos h]; exact Classical.choose_spec (each i h)⟩
    have hadd : ∀ i j, a.add (i * 8 + j) = (a.add (i * 8)).add j := fun i j => by
      unfold Addr.add
      by_cases h1 : i = 0
      · subst h1
        simp
      · by_cases h2 : j = 0
        · subst h2
          simp
        · rw [if_neg (by omega), if_neg h2, if_neg (show ¬ i * 8 = 0 by omega)]
          simp [Nat.add_assoc]
    let L : List (Ent) := (List.range len).map F
    have hlen : L.length = len := by simp [L]
    refine ⟨L, by rw [hlen]; omega, rfl, ?_⟩
    show RelC W (fun _ => False) _ (.slc L.length 8 (rowF eE E0 std fun _ => L))
    rw [hlen]
    have hget : ∀ i, i < len → L.getD i E0 = F i := fun i hi => by simp [L, List.getD_eq_getElem?_getD, hi]
    refine .slc (some a) len cap 8 _ (fun i j => (W.cell? (a.add (i * 8 + j))).getD undef) hl (fun i j hi hj => ?_) (fun h0 => ⟨a, rfl, ?_⟩) (fun i j hi hj => ?_)
    · obtain ⟨v, h1, h2, _⟩ := hF i hi j hj
      rw [hadd, h1]
      exact ⟨a, rfl, (hadd i j).symm ▸ h1, h2, fun h => h⟩
    · obtain ⟨v, h1, _⟩ := hF 0 h0 0 (by omega)
      simpa [Addr.add] using World.cell?_spot h1
    · obtain ⟨v, h1, _, h3⟩ := hF i hi j hj
      simp only [hadd, h1, Option.getD_some]
      show RelC W _ v (getAt (eE std fun _ => L.getD i E0) j)
      rw [hget i hi]
      exact h3
theorem open_ens_rel {W : World} {base : Nat} {t e : TypeId} {v : Value} {d : DataW H} {p : List MemPlace} {ρ : Nat → Value} {N : Nat → Prop} (ht : P.underlying t = some (.slice e)) {f0 f1 f2 f3 f4 f5 f6 g00 g01 : Field} (hs : P.underlying e = some (.struct #[f0, f1, f2, f3, f4, f5, f6])) (hC : P.cellsOf e = 8)
    (o0 : f0.offset = 0) (k0 : P.cellsOf f0.type = 2) (hs0 : P.underlying f0.type = some (.struct #[g00, g01])) (hone0 : oneCellFields P #[g00, g01] = true) (o1 : f1.offset = 2) (k1 : P.cellsOf f1.type = 1) (o2 : f2.offset = 3) (k2 : P.cellsOf f2.type = 1) (o3 : f3.offset = 4) (k3 : P.cellsOf f3.type = 1) (o4 : f4.offset = 5) (k4 : P.cellsOf f4.type = 1) (o5 : f5.offset = 6) (k5 : P.cellsOf f5.type = 1) (o6 : f6.offset = 7) (k6 : P.cellsOf f6.type = 1) 
    (u0 : P.underlying g00.type = some (.int .u32)) (u1 : P.underlying g01.type = some (.string)) (u2 : P.underlying f1.type = some (.int .i64)) (u3 : P.underlying f2.type = some (.string)) (u4 : P.underlying f3.type = some (.int .u64)) (u5 : P.underlying f4.type = some (.string)) (u6 : P.underlying f5.type = some (.int .i64)) (u7 : P.underlying f6.type = some (.int .i64)) 
    (hval : Value.okWide P W .any base t v) (h : DataW.Trod enc P W 0 (fun _ => true) true t v d p) :
    ∃ L : List (Ent), L.length ≤ maxLen ∧ Rel W ρ (fun _ => False) N v (rowS eE E0 8 std fun _ => L) := by
  obtain ⟨a1, len, cap, rfl⟩ := okWide_slice ht hval
  obtain ⟨fuel, hf⟩ := h
  simp only [Value.cells] at hf
  obtain ⟨L, hL, _, hr⟩ := open_ens_trod ht hs hC o0 k0 hs0 hone0 o1 k1 o2 k2 o3 k3 o4 k4 o5 k5 o6 k6 u0 u1 u2 u3 u4 u5 u6 u7 (by simpa using hf)
  exact ⟨L, hL, hr.rel⟩
end
end Go.Vd

