/- Opening inputs: bytes within a struct. -/
import Derived.Test.YtdipfibiajkedaaVdRow2
set_option linter.unusedVariables false
namespace Go.Vd
open Go.ChangeShapes Go.WideShapes Go.ChangeAt Go.RowKit Go.Joins
theorem u16_wf {z : Int} (h : (Lit.int .u16 z).wf = true) : 0 ≤ z ∧ z < 65536 := by
  simp [Lit.wf] at h
  have e1 : IntKind.u16.min = 0 := by decide
  have e2 : IntKind.u16.max = 65535 := by decide
  rw [e1, e2] at h
  exact ⟨h.1, by omega⟩
section
variable {H : Type} {enc : TypeId × Value → H} {P : Program}
theorem open_eB_trod {W : World} {t e : TypeId} {v : Value} {fuel : Nat} {x : DataW H × List MemPlace} (ht : P.underlying t = some (.slice e)) (he : P.underlying e = some (.int .u8)) (hc : P.cellsOf e = 1)
    (h : DataW.trod enc P W 0 (fun _ => true) true fuel t [v] = some x) : ∃ L : List UInt8, L.length ≤ maxLen ∧ one v ∧ RelC W (fun _ => False) v (rowS eB 0 1 std fun _ => L) := by
  rcases open_ints ht he hc h with ⟨hcs, hx⟩ | ⟨a, len, cap, zs, hcs, _, hl, hm, hz, hx, hcell, hwz⟩
  · simp only [List.cons.injEq, and_true] at hcs
    subst hcs
    exact ⟨[], Nat.zero_le _, rfl, .slc none 0 0 1 _ (fun _ _ => undef) (Nat.le_refl _) (fun i j hi => absurd hi (by omega)) (fun h => absurd h (by omega)) (fun i j hi => absurd hi (by omega))⟩
  · simp only [List.cons.injEq, and_true] at hcs
    subst hcs
    simp only [if_true] at hz
    have hlen : ((zs.take len).map fun n => UInt8.ofNat n.toNat).length = len := by simp; omega
    refine ⟨(zs.take len).map fun n => UInt8.ofNat n.toNat, by rw [hlen]; omega, rfl, ?_⟩
    show RelC W (fun _ => False) _ (.slc ((zs.take len).map fun n => UInt8.ofNat n.toNat).length 1 (rowF eB 0 std fun _ => (zs.take len).map fun n => UInt8.ofNat n.toNat))
    rw [hlen]
    refine .slc (some a) len cap 1 _ (fun i _ => .int .u8 (zs.getD i 0)) hl (fun i j hi hj => ⟨a, rfl, ?_, rfl, fun h => h⟩) (fun h => ⟨a, rfl, ?_⟩) (fun i j hi hj => ?_)
    · rw [show i * 1 + j = i by omega]
      exact hcell i (by omega)
    · simpa [Addr.add] using World.cell?_spot (hcell 0 (by omega))
    · obtain rfl : j = 0 := by omega
      have hw := u8_wf (hwz (zs.getD i 0) (by rw [List.getD_eq_getElem?_getD, List.getElem?_eq_getElem (by omega)]; simp))
      have : (zs.getD i 0) = (((zs.take len).map fun n => UInt8.ofNat n.toNat).getD i 0).toNat := by
        rw [List.getD_eq_getElem?_getD, List.getD_eq_getElem?_getD, List.getElem?_map, List.getElem?_take_of_lt hi]
        rw [List.getD_eq_getElem?_getD] at hw
        rw [List.getElem?_eq_getElem (by omega)] at hw ⊢
        simp at hw ⊢
        omega
      show RelC W _ _ (SV.int .u8 _)
      rw [this]
      exact .int _ _
end
end Go.Vd
