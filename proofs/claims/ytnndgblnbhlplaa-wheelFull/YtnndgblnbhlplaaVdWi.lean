/- Opening inputs: rows of structs. -/
import Derived.Test.YtnndgblnbhlplaaVdWf2
set_option linter.unusedVariables false
namespace Go.Vd
open Go.Proofs Go.ChangeShapes Go.WideShapes Go.ChangeAt Go.RowKit Go.Joins Go.Deep Go.WideElems
def u16B (z : Int) : Prop := 0 ≤ z ∧ z < 65536
theorem u16B_0 : u16B 0 := ⟨by decide, by decide⟩
section
variable {H : Type} {enc : TypeId × Value → H} {P : Program}
theorem kys_list {α : Type} {cs : List α} (h : cs.length = 2) : ∃ c0 c1, cs = [c0, c1] := by
  match cs, h with
  | [c0, c1], _ => exact ⟨c0, c1, rfl⟩
theorem kys_one {W : World} {ad : Addr} {n : Nat} {el : DataW H × List MemPlace} {e : TypeId} {f0 f1 : Field} (hs : P.underlying e = some (.struct #[f0, f1])) (hC : P.cellsOf e = 2)
    (o0 : f0.offset = 0) (k0 : P.cellsOf f0.type = 1) (o1 : f1.offset = 1) (k1 : P.cellsOf f1.type = 1) 
    (u0 : P.underlying f0.type = some (.int .u32)) (u1 : P.underlying f1.type = some (.string)) 
    (h : (W.cells? 0 ad 2).bind (DataW.trod enc P W 0 (fun _ => true) true n e) = some el) :
    ∃ x : Int × List UInt8, ∀ j, j < 2 → ∃ v, W.cell? (ad.add j) = some v ∧ Vd.one v ∧ RelC W (fun _ => False) v (getAt (eKy std fun _ => x) j) := by
  obtain ⟨cs, hcs, hf⟩ := Option.bind_eq_some_iff.1 h
  obtain ⟨_, hlen, hcell⟩ := World.cells?_some hcs
  obtain ⟨c0, c1, rfl⟩ := kys_list hlen
  obtain ⟨xs, n', _, hx, hl, hlen2, hf⟩ := DataW.trod_struct hs hf
  match xs, hlen2 with
  | [w0, w1], _ =>
    have q0 := hf 0 f0 rfl
    rw [o0, k0] at q0
    have q0 : DataW.trod enc P W 0 (fun _ => true) true n' f0.type [c0] = some w0 := by simpa using q0
    have q1 := hf 1 f1 rfl
    rw [o1, k1] at q1
    have q1 : DataW.trod enc P W 0 (fun _ => true) true n' f1.type [c1] = some w1 := by simpa using q1
    obtain ⟨z0, e0, _, wf0⟩ := DataW.trod_int (cs := [c0]) u0 q0
    obtain ⟨s1, e1, _, _⟩ := DataW.trod_string (cs := [c1]) u1 q1
    simp only [List.cons.injEq, and_true] at e0 e1
    subst e0 e1
    refine ⟨(z0, s1.data.toList), fun j hj => ?_⟩
    have hcj := hcell j (by omega)
    match j, hj with
    | 0, _ => exact ⟨.int .u32 z0, by simpa using hcj, rfl, .int _ _⟩
    | 1, _ => exact ⟨.string s1, by simpa using hcj, rfl, .str _⟩
theorem open_kys_trod {W : World} {t e : TypeId} {v : Value} {fuel : Nat} {x : DataW H × List MemPlace} (ht : P.underlying t = some (.slice e)) {f0 f1 : Field} (hs : P.underlying e = some (.struct #[f0, f1])) (hC : P.cellsOf e = 2)
    (o0 : f0.offset = 0) (k0 : P.cellsOf f0.type = 1) (o1 : f1.offset = 1) (k1 : P.cellsOf f1.type = 1) 
    (u0 : P.underlying f0.type = some (.int .u32)) (u1 : P.underlying f1.type = some (.string)) 
    (h : DataW.trod enc P W 0 (fun _ => true) true fuel t [v] = some x) :
    ∃ L : List (Int × List UInt8), L.length ≤ maxLen ∧ Vd.one v ∧ RelC W (fun _ => False) v (rowS eKy K0 2 std fun _ => L) := by
  rcases DataW.trod_slice ht h with ⟨hcs, _⟩ | ⟨a, len, cap, elems, rest, n, _, hcs, _, _, hl, hm, hel, hx, _, _⟩
  · simp only [List.cons.injEq, and_true] at hcs
    subst hcs
    exact ⟨[], Nat.zero_le _, rfl, .slc none 0 0 2 _ (fun _ _ => undef) (Nat.le_refl _) (fun i j hi => absurd hi (by omega)) (fun h => absurd h (by omega)) (fun i j hi => absurd hi (by omega))⟩
  · simp only [List.cons.injEq, and_true] at hcs
    subst hcs
    rw [hC] at hx
    have each : ∀ i, i < len → ∃ x : Int × List UInt8, ∀ j, j < 2 → ∃ v, W.cell? ((a.add (i * 2)).add j) = some v ∧ Vd.one v ∧ RelC W (fun _ => False) v (getAt (eKy std fun _ => x) j) := by
      intro i hi
      have h1 := hx i hi
      rw [List.getElem?_eq_getElem (by omega)] at h1
      exact kys_one hs hC o0 k0 o1 k1 u0 u1 h1
    obtain ⟨F, hF⟩ : ∃ F : Nat → Int × List UInt8, ∀ i, i < len → ∀ j, j < 2 → ∃ v, W.cell? ((a.add (i * 2)).add j) = some v ∧ Vd.one v ∧ RelC W (fun _ => False) v (getAt (eKy std fun _ => F i) j) :=
      ⟨fun i => if h : i < len then Classical.choose (each i h) else K0, fun i h => by simp only [dif_pos h]; exact Classical.choose_spec (each i h)⟩
    have hadd : ∀ i j, a.add (i * 2 + j) = (a.add (i * 2)).add j := fun i j => by
      unfold Addr.add
      by_cases h1 : i = 0
      · subst h1
        simp
      · by_cases h2 : j = 0
        · subst h2
          simp
        · rw [if_neg (by omega), if_neg h2, if_neg (show ¬ i * 2 = 0 by omega)]
          simp [Nat.add_assoc]
    let L : List (Int × List UInt8) := (List.range len).map F
    have hlen : L.length = len := by simp [L]
    refine ⟨L, by rw [hlen]; omega, rfl, ?_⟩
    show RelC W (fun _ => False) _ (.slc L.length 2 (rowF eKy K0 std fun _ => L))
    rw [hlen]
    have hget : ∀ i, i < len → L.getD i K0 = F i := fun i hi => by simp [L, List.getD_eq_getElem?_getD, hi]
    refine .slc (some a) len cap 2 _ (fun i j => (W.cell? (a.add (i * 2 + j))).getD undef) hl (fun i j hi hj => ?_) (fun h0 => ⟨a, rfl, ?_⟩) (fun i j hi hj => ?_)
    · obtain ⟨v, h1, h2, _⟩ := hF i hi j hj
      rw [hadd, h1]
      exact ⟨a, rfl, (hadd i j).symm ▸ h1, h2, fun h => h⟩
    · obtain ⟨v, h1, _⟩ := hF 0 h0 0 (by omega)
      simpa [Addr.add] using World.cell?_spot h1
    · obtain ⟨v, h1, _, h3⟩ := hF i hi j hj
      simp only [hadd, h1, Option.getD_some]
      show RelC W _ v (getAt (eKy std fun _ => L.getD i K0) j)
      rw [hget i hi]
      exact h3
theorem open_kys_rel {W : World} {base : Nat} {t e : TypeId} {v : Value} {d : DataW H} {p : List MemPlace} {ρ : Nat → Value} {N : Nat → Prop} (ht : P.underlying t = some (.slice e)) {f0 f1 : Field} (hs : P.underlying e = some (.struct #[f0, f1])) (hC : P.cellsOf e = 2)
    (o0 : f0.offset = 0) (k0 : P.cellsOf f0.type = 1) (o1 : f1.offset = 1) (k1 : P.cellsOf f1.type = 1) 
    (u0 : P.underlying f0.type = some (.int .u32)) (u1 : P.underlying f1.type = some (.string)) 
    (hval : Value.okWide P W .any base t v) (h : DataW.Trod enc P W 0 (fun _ => true) true t v d p) :
    ∃ L : List (Int × List UInt8), L.length ≤ maxLen ∧ Rel W ρ (fun _ => False) N v (rowS eKy K0 2 std fun _ => L) := by
  obtain ⟨a1, len, cap, rfl⟩ := okWide_slice ht hval
  obtain ⟨fuel, hf⟩ := h
  simp only [Value.cells] at hf
  obtain ⟨L, hL, _, hr⟩ := open_kys_trod ht hs hC o0 k0 o1 k1 u0 u1 (by simpa using hf)
  exact ⟨L, hL, hr.rel⟩
theorem u16s_list {α : Type} {cs : List α} (h : cs.length = 1) : ∃ c0, cs = [c0] := by
  match cs, h with
  | [c0], _ => exact ⟨c0, rfl⟩
theorem u16s_one {W : World} {ad : Addr} {n : Nat} {el : DataW H × List MemPlace} {e : TypeId} (hs : P.underlying e = some (.int .u16)) (hC : P.cellsOf e = 1)
    (h : (W.cells? 0 ad 1).bind (DataW.trod enc P W 0 (fun _ => true) true n e) = some el) :
    ∃ x : Int, u16B x ∧ ∀ j, j < 1 → ∃ v, W.cell? (ad.add j) = some v ∧ Vd.one v ∧ RelC W (fun _ => False) v (getAt (e16 std fun _ => x) j) := by
  obtain ⟨cs, hcs, hf⟩ := Option.bind_eq_some_iff.1 h
  obtain ⟨_, hlen, hcell⟩ := World.cells?_some hcs
  obtain ⟨c0, rfl⟩ := u16s_list hlen
  obtain ⟨z0, e0, _, wf0⟩ := DataW.trod_int (cs := [c0]) hs hf
  simp only [List.cons.injEq, and_true] at e0
  subst e0
  refine ⟨z0, (u16_wf wf0), fun j hj => ?_⟩
  have hcj := hcell j (by omega)
  match j, hj with
  | 0, _ => exact ⟨.int .u16 z0, by simpa using hcj, rfl, .int _ _⟩
theorem open_u16s_trod {W : World} {t e : TypeId} {v : Value} {fuel : Nat} {x : DataW H × List MemPlace} (ht : P.underlying t = some (.slice e)) (hs : P.underlying e = some (.int .u16)) (hC : P.cellsOf e = 1)
    (h : DataW.trod enc P W 0 (fun _ => true) true fuel t [v] = some x) :
    ∃ L : List (Int), L.length ≤ maxLen ∧ (∀ i, u16B (L.getD i 0)) ∧ Vd.one v ∧ RelC W (fun _ => False) v (rowS e16 0 1 std fun _ => L) := by
  rcases DataW.trod_slice ht h with ⟨hcs, _⟩ | ⟨a, len, cap, elems, rest, n, _, hcs, _, _, hl, hm, hel, hx, _, _⟩
  · simp only [List.cons.injEq, and_true] at hcs
    subst hcs
    exact ⟨[], Nat.zero_le _, fun i => u16B_0, rfl, .slc none 0 0 1 _ (fun _ _ => undef) (Nat.le_refl _) (fun i j hi => absurd hi (by omega)) (fun h => absurd h (by omega)) (fun i j hi => absurd hi (by omega))⟩
  · simp only [List.cons.injEq, and_true] at hcs
    subst hcs
    rw [hC] at hx
    have each : ∀ i, i < len → ∃ x : Int, u16B x ∧ ∀ j, j < 1 → ∃ v, W.cell? ((a.add (i * 1)).add j) = some v ∧ Vd.one v ∧ RelC W (fun _ => False) v (getAt (e16 std fun _ => x) j) := by
      intro i hi
      have h1 := hx i hi
      rw [List.getElem?_eq_getElem (by omega)] at h1
      exact u16s_one hs hC h1
    obtain ⟨F, hF⟩ : ∃ F : Nat → Int, ∀ i, i < len → u16B (F i) ∧ ∀ j, j < 1 → ∃ v, W.cell? ((a.add (i * 1)).add j) = some v ∧ Vd.one v ∧ RelC W (fun _ => False) v (getAt (e16 std fun _ => F i) j) :=
      ⟨fun i => if h : i < len then Classical.choose (each i h) else 0, fun i h => by simp only [dif_pos h]; exact Classical.choose_spec (each i h)⟩
    have hadd : ∀ i j, a.add (i * 1 + j) = (a.add (i * 1)).add j := fun i j => by
      unfold Addr.add
      by_cases h1 : i = 0
      · subst h1
        simp
      · by_cases h2 : j = 0
        · subst h2
          simp
        · rw [if_neg (by omega), if_neg h2, if_neg (show ¬ i * 1 = 0 by omega)]
          simp [Nat.add_assoc]
    let L : List (Int) := (List.range len).map F
    have hlen : L.length = len := by simp [L]
    refine ⟨L, by rw [hlen]; omega, fun i => ?_, rfl, ?_⟩
    · by_cases hi : i < len
      · have e : L.getD i 0 = F i := by simp [L, List.getD_eq_getElem?_getD, hi]
        rw [e]; exact (hF i hi).1
      · have e : L.getD i 0 = 0 := by rw [List.getD_eq_getElem?_getD, List.getElem?_eq_none (by rw [hlen]; omega)]; rfl
        rw [e]; exact u16B_0
    show RelC W (fun _ => False) _ (.slc L.length 1 (rowF e16 0 std fun _ => L))
    rw [hlen]
    have hget : ∀ i, i < len → L.getD i 0 = F i := fun i hi => by simp [L, List.getD_eq_getElem?_getD, hi]
    refine .slc (some a) len cap 1 _ (fun i j => (W.cell? (a.add (i * 1 + j))).getD undef) hl (fun i j hi hj => ?_) (fun h0 => ⟨a, rfl, ?_⟩) (fun i j hi hj => ?_)
    · obtain ⟨v, h1, h2, _⟩ := (hF i hi).2 j hj
      rw [hadd, h1]
      exact ⟨a, rfl, (hadd i j).symm ▸ h1, h2, fun h => h⟩
    · obtain ⟨v, h1, _⟩ := (hF 0 h0).2 0 (by omega)
      simpa [Addr.add] using World.cell?_spot h1
    · obtain ⟨v, h1, _, h3⟩ := (hF i hi).2 j hj
      simp only [hadd, h1, Option.getD_some]
      show RelC W _ v (getAt (e16 std fun _ => L.getD i 0) j)
      rw [hget i hi]
      exact h3
theorem open_u16s_rel {W : World} {base : Nat} {t e : TypeId} {v : Value} {d : DataW H} {p : List MemPlace} {ρ : Nat → Value} {N : Nat → Prop} (ht : P.underlying t = some (.slice e)) (hs : P.underlying e = some (.int .u16)) (hC : P.cellsOf e = 1)
    (hval : Value.okWide P W .any base t v) (h : DataW.Trod enc P W 0 (fun _ => true) true t v d p) :
    ∃ L : List (Int), L.length ≤ maxLen ∧ (∀ i, u16B (L.getD i 0)) ∧ Rel W ρ (fun _ => False) N v (rowS e16 0 1 std fun _ => L) := by
  obtain ⟨a1, len, cap, rfl⟩ := okWide_slice ht hval
  obtain ⟨fuel, hf⟩ := h
  simp only [Value.cells] at hf
  obtain ⟨L, hL, hB, _, hr⟩ := open_u16s_trod ht hs hC (by simpa using hf)
  exact ⟨L, hL, hB, hr.rel⟩
end
end Go.Vd

