/- Opening inputs: a row of events. -/
import Derived.Test.YtcjogfdlpoablaaDoorVdWf2
import Derived.Test.YtcjogfdlpoablaaDoorVdCC
set_option linter.unusedVariables false
namespace Go.Vd
open Go.Proofs Go.ChangeShapes Go.WideShapes Go.ChangeAt Go.RowKit Go.Joins Go.Deep Go.WideElems
section
variable {H : Type} {enc : TypeId × Value → H} {P : Program}
theorem list7 {α : Type} {cs : List α} (h : cs.length = 7) : ∃ c0 c1 c2 c3 c4 c5 c6, cs = [c0, c1, c2, c3, c4, c5, c6] := by
  match cs, h with
  | [c0, c1, c2, c3, c4, c5, c6], _ => exact ⟨c0, c1, c2, c3, c4, c5, c6, rfl⟩
theorem ev_one {W : World} {ad : Addr} {n : Nat} {el : DataW H × List MemPlace} {t : TypeId} {f0 f1 g10 g11 g12 g13 g14 g15 : Field} (hs : P.underlying t = some (.struct #[f0, f1])) (hC : P.cellsOf t = 7)
    (o0 : f0.offset = 0) (k0 : P.cellsOf f0.type = 1) (o1 : f1.offset = 1) (k1 : P.cellsOf f1.type = 6) (hs1 : P.underlying f1.type = some (.struct #[g10, g11, g12, g13, g14, g15])) (hone1 : oneCellFields P #[g10, g11, g12, g13, g14, g15] = true)
    (u0 : P.underlying f0.type = some (.int .i64)) (u1 : P.underlying g10.type = some (.int .i64)) (u2 : P.underlying g11.type = some .string) (u3 : P.underlying g12.type = some (.int .u64)) (u4 : P.underlying g13.type = some (.int .u32)) (u5 : P.underlying g14.type = some .string) (u6 : P.underlying g15.type = some .string)
    (h : (W.cells? 0 ad 7).bind (DataW.trod enc P W 0 (fun _ => true) true n t) = some el) :
    ∃ x : Ev, ∀ j, j < 7 → ∃ v, W.cell? (ad.add j) = some v ∧ one v ∧ RelC W (fun _ => False) v (getAt (eV std fun _ => x) j) := by
  obtain ⟨cs, hcs, hf⟩ := Option.bind_eq_some_iff.1 h
  obtain ⟨_, hlen, hcell⟩ := World.cells?_some hcs
  obtain ⟨c0, c1, c2, c3, c4, c5, c6, rfl⟩ := list7 hlen
  obtain ⟨xs, n', _, hx, hl, hlen2, hf⟩ := DataW.trod_struct hs hf
  match xs, hlen2 with
  | [w0, w1], _ =>
    have q0 := hf 0 f0 rfl
    rw [o0, k0] at q0
    have q1 := hf 1 f1 rfl
    rw [o1, k1] at q1
    have q0 : DataW.trod enc P W 0 (fun _ => true) true n' f0.type [c0] = some w0 := by simpa using q0
    have q1 : DataW.trod enc P W 0 (fun _ => true) true n' f1.type [c1, c2, c3, c4, c5, c6] = some w1 := by simpa using q1
    obtain ⟨xs1, m1, _, hx1, _, hlen1, hf1⟩ := DataW.trod_struct hs1 q1
    match xs1, hlen1 with
    | [y10, y11, y12, y13, y14, y15], _ =>
    obtain ⟨oo10, kk10⟩ := hone_of hone1 0 g10 rfl
    have qq10 := hf1 0 g10 rfl
    rw [oo10, kk10] at qq10
    obtain ⟨oo11, kk11⟩ := hone_of hone1 1 g11 rfl
    have qq11 := hf1 1 g11 rfl
    rw [oo11, kk11] at qq11
    obtain ⟨oo12, kk12⟩ := hone_of hone1 2 g12 rfl
    have qq12 := hf1 2 g12 rfl
    rw [oo12, kk12] at qq12
    obtain ⟨oo13, kk13⟩ := hone_of hone1 3 g13 rfl
    have qq13 := hf1 3 g13 rfl
    rw [oo13, kk13] at qq13
    obtain ⟨oo14, kk14⟩ := hone_of hone1 4 g14 rfl
    have qq14 := hf1 4 g14 rfl
    rw [oo14, kk14] at qq14
    obtain ⟨oo15, kk15⟩ := hone_of hone1 5 g15 rfl
    have qq15 := hf1 5 g15 rfl
    rw [oo15, kk15] at qq15
    obtain ⟨z0, e0, _, _⟩ := DataW.trod_int u0 q0
    obtain ⟨z1, e1, _, _⟩ := DataW.trod_int (cs := [c1]) u1 (by simpa using qq10)
    obtain ⟨s2, e2, _, _⟩ := DataW.trod_string (cs := [c2]) u2 (by simpa using qq11)
    obtain ⟨z3, e3, _, _⟩ := DataW.trod_int (cs := [c3]) u3 (by simpa using qq12)
    obtain ⟨z4, e4, _, _⟩ := DataW.trod_int (cs := [c4]) u4 (by simpa using qq13)
    obtain ⟨s5, e5, _, _⟩ := DataW.trod_string (cs := [c5]) u5 (by simpa using qq14)
    obtain ⟨s6, e6, _, _⟩ := DataW.trod_string (cs := [c6]) u6 (by simpa using qq15)
    simp only [List.cons.injEq, and_true] at e0 e1 e2 e3 e4 e5 e6
    subst e0 e1 e2 e3 e4 e5 e6
    refine ⟨(z0, ⟨z1, s2.data.toList, z3, z4, s5.data.toList, s6.data.toList⟩), fun j hj => ?_⟩
    have hcj := hcell j (by omega)
    match j, hj with
    | 0, _ => exact ⟨.int .i64 z0, by simpa using hcj, rfl, .int _ _⟩
    | 1, _ => exact ⟨.int .i64 z1, by simpa using hcj, rfl, .int _ _⟩
    | 2, _ => exact ⟨.string s2, by simpa using hcj, rfl, .str _⟩
    | 3, _ => exact ⟨.int .u64 z3, by simpa using hcj, rfl, .int _ _⟩
    | 4, _ => exact ⟨.int .u32 z4, by simpa using hcj, rfl, .int _ _⟩
    | 5, _ => exact ⟨.string s5, by simpa using hcj, rfl, .str _⟩
    | 6, _ => exact ⟨.string s6, by simpa using hcj, rfl, .str _⟩
theorem open_evs_rel {W : World} {base : Nat} {t e : TypeId} {v : Value} {d : DataW H} {p : List MemPlace} {ρ : Nat → Value} {N : Nat → Prop} {f0 f1 g10 g11 g12 g13 g14 g15 : Field} (ht : P.underlying t = some (.slice e)) (hs : P.underlying e = some (.struct #[f0, f1])) (hC : P.cellsOf e = 7)
    (o0 : f0.offset = 0) (k0 : P.cellsOf f0.type = 1) (o1 : f1.offset = 1) (k1 : P.cellsOf f1.type = 6) (hs1 : P.underlying f1.type = some (.struct #[g10, g11, g12, g13, g14, g15])) (hone1 : oneCellFields P #[g10, g11, g12, g13, g14, g15] = true)
    (u0 : P.underlying f0.type = some (.int .i64)) (u1 : P.underlying g10.type = some (.int .i64)) (u2 : P.underlying g11.type = some .string) (u3 : P.underlying g12.type = some (.int .u64)) (u4 : P.underlying g13.type = some (.int .u32)) (u5 : P.underlying g14.type = some .string) (u6 : P.underlying g15.type = some .string)
    (hval : Value.okWide P W .any base t v) (h : DataW.Trod enc P W 0 (fun _ => true) true t v d p) :
    ∃ L : List Ev, L.length ≤ maxLen ∧ Rel W ρ (fun _ => False) N v (rowS eV (0, ⟨0, [], 0, 0, [], []⟩) 7 std fun _ => L) := by
  obtain ⟨a1, len, cap, rfl⟩ := okWide_slice ht hval
  obtain ⟨fuel, hf⟩ := h
  simp only [Value.cells] at hf
  rcases DataW.trod_slice ht hf with ⟨hcs, _⟩ | ⟨a, len', cap', elems, rest, n, _, hcs, _, _, hl, hm, hel, hx, _, _⟩
  · simp at hcs
    obtain ⟨rfl, rfl, rfl⟩ := hcs
    exact ⟨[], Nat.zero_le _, .slc none 0 0 7 _ (fun _ _ => undef) (Nat.le_refl _) (fun i j hi => absurd hi (by omega)) (fun h => absurd h (by omega)) (fun i j hi => absurd hi (by omega))⟩
  · simp at hcs
    obtain ⟨rfl, rfl, rfl⟩ := hcs
    rw [hC] at hx
    have each : ∀ i, i < len → ∃ x : Ev, ∀ j, j < 7 → ∃ v, W.cell? ((a.add (i * 7)).add j) = some v ∧ one v ∧ RelC W (fun _ => False) v (getAt (eV std fun _ => x) j) := by
      intro i hi
      have h1 := hx i hi
      rw [List.getElem?_eq_getElem (by omega)] at h1
      exact ev_one hs hC o0 k0 o1 k1 hs1 hone1 u0 u1 u2 u3 u4 u5 u6 h1
    obtain ⟨F, hF⟩ : ∃ F : Nat → Ev, ∀ i, i < len → ∀ j, j < 7 → ∃ v, W.cell? ((a.add (i * 7)).add j) = some v ∧ one v ∧ RelC W (fun _ => False) v (getAt (eV std fun _ => F i) j) :=
      ⟨fun i => if h : i < len then Classical.choose (each i h) else (0, ⟨0, [], 0, 0, [], []⟩), fun i h => by simp only [dif_pos h]; exact Classical.choose_spec (each i h)⟩
    have hadd : ∀ i j, a.add (i * 7 + j) = (a.add (i * 7)).add j := fun i j => by
      unfold Addr.add
      by_cases h1 : i = 0
      · subst h1
        simp
      · by_cases h2 : j = 0
        · subst h2
          simp
        · rw [if_neg (by omega), if_neg h2, if_neg (show ¬ i * 7 = 0 by omega)]
          simp [Nat.add_assoc]
    let L : List Ev := (List.range len).map F
    have hlen : L.length = len := by simp [L]
    refine ⟨L, by rw [hlen]; omega, ?_⟩
    show Rel W ρ (fun _ => False) N _ (.slc L.length 7 (rowF eV (0, ⟨0, [], 0, 0, [], []⟩) std fun _ => L))
    rw [hlen]
    have hget : ∀ i, i < len → L.getD i (0, ⟨0, [], 0, 0, [], []⟩) = F i := fun i hi => by simp [L, List.getD_eq_getElem?_getD, hi]
    refine .slc (some a) len cap 7 _ (fun i j => (W.cell? (a.add (i * 7 + j))).getD undef) hl (fun i j hi hj => ?_) (fun h0 => ⟨a, rfl, ?_⟩) (fun i j hi hj => ?_)
    · obtain ⟨v, h1, h2, _⟩ := hF i hi j hj
      rw [hadd, h1]
      exact ⟨a, rfl, (hadd i j).symm ▸ h1, h2, fun h => h⟩
    · obtain ⟨v, h1, _⟩ := hF 0 h0 0 (by omega)
      simpa [Addr.add] using World.cell?_spot h1
    · obtain ⟨v, h1, _, h3⟩ := hF i hi j hj
      simp only [hadd, h1, Option.getD_some]
      show RelC W _ v (getAt (eV std fun _ => L.getD i (0, ⟨0, [], 0, 0, [], []⟩)) j)
      rw [hget i hi]
      exact h3
end
end Go.Vd
