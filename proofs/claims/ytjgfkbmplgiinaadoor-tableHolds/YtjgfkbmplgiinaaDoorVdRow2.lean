/- What came in: bytes, and rows of bytes, as rows of things. -/
import Derived.Test.YtjgfkbmplgiinaaDoorVdRow
import Derived.Test.YtjgfkbmplgiinaaDoorVdSimp
import Derived.Deep.Matrix
set_option linter.unusedVariables false
set_option linter.unusedSimpArgs false
namespace Go.Vd
open Go.Proofs Go.ChangeShapes Go.WideShapes Go.ChangeAt Go.RowKit Go.Joins

section
variable {H : Type} {enc : TypeId × Value → H} {P : Program}

theorem open_eB_rel {W : World} {base : Nat} {t e : TypeId} {v : Value} {d : DataW H} {p : List MemPlace} {ρ : Nat → Value} {N : Nat → Prop} (ht : P.underlying t = some (.slice e)) (he : P.underlying e = some (.int .u8)) (hc : P.cellsOf e = 1)
    (hval : Value.okWide P W .any base t v) (h : DataW.Trod enc P W 0 (fun _ => true) true t v d p) :
    ∃ L : List UInt8, L.length ≤ maxLen ∧ Rel W ρ (fun _ => False) N v (rowS eB 0 1 std fun _ => L) := by
  obtain ⟨L, hL, hr⟩ := open_bytes_rel (ρ := ρ) (N := N) ht he hc hval h
  refine ⟨L, hL, hr.ceq (.slc _ _ _ _ fun i j hi hj => ?_)⟩
  obtain rfl : j = 0 := by omega
  exact .refl _

theorem u8_wf {z : Int} (h : (Lit.int .u8 z).wf = true) : 0 ≤ z ∧ z < 256 := by
  simp [Lit.wf] at h
  have e1 : IntKind.u8.min = 0 := by decide
  have e2 : IntKind.u8.max = 255 := by decide
  rw [e1, e2] at h
  exact ⟨h.1, by omega⟩

theorem open_eBs_trod {W : World} {t e q : TypeId} {v : Value} {fuel : Nat} {x : DataW H × List MemPlace} {ρ : Nat → Value} {N : Nat → Prop} (ht : P.underlying t = some (.slice e)) (he : P.underlying e = some (.slice q)) (hq : P.underlying q = some (.int .u8)) (ce : P.cellsOf e = 1) (cq : P.cellsOf q = 1)
    (h : DataW.trod enc P W 0 (fun _ => true) true fuel t [v] = some x) :
    ∃ L : List (List UInt8), L.length ≤ maxLen ∧ one v ∧ RelC W (fun _ => False) v (rowS eBs [] 1 std fun _ => L) := by
  rcases Deep.open_int_rows ht he hq ce cq h with ⟨hcs, _⟩ | ⟨a, len, cap, A, Ln, C, Z, hcs, _, hl, hm, _, hx⟩
  · simp only [List.cons.injEq, and_true] at hcs
    subst hcs
    exact ⟨[], Nat.zero_le _, rfl, .slc none 0 0 1 _ (fun _ _ => undef) (Nat.le_refl _) (fun i j hi => absurd hi (by omega)) (fun h => absurd h (by omega)) (fun i j hi => absurd hi (by omega))⟩
  · simp only [List.cons.injEq, and_true] at hcs
    subst hcs
    let L : List (List UInt8) := (List.range len).map fun r => ((Z r).take (Ln r)).map fun n => UInt8.ofNat n.toNat
    have hlen : L.length = len := by simp [L]
    refine ⟨L, by rw [hlen]; omega, rfl, ?_⟩
    show RelC W (fun _ => False) _ (.slc L.length 1 (rowF eBs [] std fun _ => L))
    rw [hlen]
    refine .slc (some a) len cap 1 _ (fun i _ => .slice (A i) (Ln i) (C i)) hl (fun i j hi hj => ?_) (fun h0 => ⟨a, rfl, ?_⟩) (fun i j hi hj => ?_)
    · obtain ⟨h1, _⟩ := hx i (by omega)
      obtain rfl : j = 0 := by omega
      exact ⟨a, rfl, by simpa using h1, rfl, fun h => h⟩
    · obtain ⟨h1, _⟩ := hx 0 (by omega)
      simpa [Addr.add] using World.cell?_spot h1
    · obtain rfl : j = 0 := by omega
      obtain ⟨_, h2, h3, h4, h5, h6, h7⟩ := hx i (by omega)
      have hLi : L.getD i [] = ((Z i).take (Ln i)).map fun n => UInt8.ofNat n.toNat := by
        simp [L, List.getD_eq_getElem?_getD, hi]
      have hLl : (L.getD i []).length = Ln i := by rw [hLi]; simp; omega
      show RelC W (fun _ => False) _ (.slc (L.getD i []).length 1 (rowF eB 0 std fun _ => L.getD i []))
      rw [hLl]
      refine .slc (A i) (Ln i) (C i) 1 _ (fun c _ => .int .u8 ((Z i).getD c 0)) h2 (fun c j hc hj => ?_) (fun h0 => ?_) (fun c j hc hj => ?_)
      · obtain rfl : j = 0 := by omega
        cases hA : A i with
        | none => have := h6 hA; omega
        | some a' => exact ⟨a', rfl, by simpa using (h7 a' hA).2 c (by omega), rfl, fun h => h⟩
      · cases hA : A i with
        | none => have := h6 hA; omega
        | some a' => exact ⟨a', rfl, by simpa [Addr.add] using World.cell?_spot ((h7 a' hA).2 0 (by omega))⟩
      · obtain rfl : j = 0 := by omega
        have hw := u8_wf (h5 ((Z i).getD c 0) (by rw [List.getD_eq_getElem?_getD, List.getElem?_eq_getElem (by omega)]; simp))
        have : (Z i).getD c 0 = ((L.getD i []).getD c 0).toNat := by
          rw [hLi, List.getD_eq_getElem?_getD, List.getD_eq_getElem?_getD, List.getElem?_map, List.getElem?_take_of_lt hc]
          rw [List.getD_eq_getElem?_getD] at hw
          rw [List.getElem?_eq_getElem (by omega)] at hw ⊢
          simp at hw ⊢
          omega
        show RelC W _ _ (SV.int .u8 (((L.getD i []).getD c 0).toNat : Int))
        rw [this]
        exact .int _ _

theorem open_eBs_rel {W : World} {base : Nat} {t e q : TypeId} {v : Value} {d : DataW H} {p : List MemPlace} {ρ : Nat → Value} {N : Nat → Prop} (ht : P.underlying t = some (.slice e)) (he : P.underlying e = some (.slice q)) (hq : P.underlying q = some (.int .u8)) (ce : P.cellsOf e = 1) (cq : P.cellsOf q = 1)
    (hval : Value.okWide P W .any base t v) (h : DataW.Trod enc P W 0 (fun _ => true) true t v d p) :
    ∃ L : List (List UInt8), L.length ≤ maxLen ∧ Rel W ρ (fun _ => False) N v (rowS eBs [] 1 std fun _ => L) := by
  obtain ⟨a1, len, cap, rfl⟩ := okWide_slice ht hval
  obtain ⟨fuel, hf⟩ := h
  simp only [Value.cells] at hf
  obtain ⟨L, hL, _, hr⟩ := open_eBs_trod (ρ := ρ) (N := N) ht he hq ce cq (by simpa using hf)
  exact ⟨L, hL, hr.rel⟩
end
/-- A struct of an integer and a slice. -/
theorem rel_agg2 {w : World} {ρ : Nat → Value} {rw N : Nat → Prop} {u v : Value} {s t : SV} (h1 : one u) (h2 : one v) (hs : Rel w ρ rw N u s) (ht : Rel w ρ rw N v t) : Rel w ρ rw N (.agg #[u, v]) (.agg [s, t]) := by
  refine .agg _ _ rfl ?_ ?_
  · intro x hx
    simp at hx
    rcases hx with rfl | rfl <;> assumption
  · intro i x y hx hy
    match i with
    | 0 => simp at hx hy; subst hx hy; exact hs
    | 1 => simp at hx hy; subst hx hy; exact ht
    | n + 2 => simp at hx
theorem rel_agg1 {w : World} {ρ : Nat → Value} {rw N : Nat → Prop} {u : Value} {s : SV} (h1 : one u) (hs : Rel w ρ rw N u s) : Rel w ρ rw N (.agg #[u]) (.agg [s]) := by
  refine .agg _ _ rfl ?_ ?_
  · intro x hx
    simp at hx
    subst hx
    assumption
  · intro i x y hx hy
    match i with
    | 0 => simp at hx hy; subst hx hy; exact hs
    | n + 1 => simp at hx
end Go.Vd

