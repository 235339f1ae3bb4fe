/- BitmapBack. -/
import Derived.Test.YthebeokidnlnbaaVdBm9
set_option linter.unusedVariables false
set_option linter.unusedSimpArgs false
set_option maxRecDepth 100000
set_option maxHeartbeats 1000000
namespace Go.Vd
open Go.Proofs
theorem zsL_lit (L : List Int) : zsL L.length (fun i x => SV.int .i64 (L[i]?.getD 0)) = L := by
  have := zsL_zsF L
  simpa [zsF_eq, std] using this
theorem isZs_lit (L : List Int) (n : Nat) : isZs n (fun i x => SV.int .i64 (L[i]?.getD 0)) := fun i hi => ⟨_, rfl⟩
theorem bsL_takeN (L : List UInt8) (c : Nat) (h : c ≤ L.length) : bsL c (fun i x => SV.int .u8 ((L[i]?.getD 0).toNat : Int)) = L.take c := by
  apply List.ext_getElem
  · simp [bsL]; omega
  · intro i h1 h2
    simp only [bsL, List.length_map, List.length_range] at h1
    simp [bsL, toI]
    rw [List.getElem?_eq_getElem (by omega)]
    simp
theorem bsL_cat (L M : List UInt8) : bsL (L.length + M.length) (fun i j => if i < L.length then SV.int .u8 ((L[i]?.getD 0).toNat : Int) else SV.int .u8 ((M[i - L.length]?.getD 0).toNat : Int)) = L ++ M := by
  apply List.ext_getElem
  · simp [bsL]
  · intro i h1 h2
    simp only [bsL, List.length_map, List.length_range] at h1
    simp only [bsL, List.getElem_map, List.getElem_range]
    by_cases hi : i < L.length
    · rw [if_pos hi, List.getElem_append_left hi]
      simp [toI, List.getElem?_eq_getElem hi]
    · rw [if_neg hi, List.getElem_append_right (by omega)]
      simp [toI, List.getElem?_eq_getElem (show i - L.length < M.length by omega)]
theorem isBs_cat (L M : List UInt8) (n : Nat) : isBs n (fun i j => if i < L.length then SV.int .u8 ((L[i]?.getD 0).toNat : Int) else SV.int .u8 ((M[i - L.length]?.getD 0).toNat : Int)) := by
  intro i hi
  by_cases h : i < L.length
  · exact ⟨_, if_pos h⟩
  · exact ⟨_, if_neg h⟩
theorem str_take (L : List UInt8) (c : Nat) (h : c ≤ L.length) : List.map (fun i => byteOfSV (SV.int .u8 ((L[i]?.getD 0).toNat : Int))) (List.range c) = L.take c := bsL_takeN L c h
theorem str_lit (L : List UInt8) : List.map (fun i => byteOfSV (SV.int .u8 ((L[i]?.getD 0).toNat : Int))) (List.range L.length) = L := by
  have := str_take L L.length (Nat.le_refl _)
  rw [List.take_length] at this
  exact this
theorem bbErr_ok {h l : Nat} : bbErr h l = 0 ↔ bright h l = true := by
  unfold bbErr; cases bright h l <;> simp
theorem bb_le (h l : Nat) : (bbytes h l).length ≤ 16 := by
  cases hb : bright h l
  · simp [bbytes, hb]
  · rw [bb_len hb]; split <;> omega
theorem read_no (L : List UInt8) (h : ¬ brE L = 0) : br1 L = 0 ∧ br2 L = 0 ∧ brN L = 0 := by simp [br1, br2, brN, h]
theorem bf_le (h l : Nat) : (bfields h l).length ≤ 129 := bfieldsTo_len h l 129
theorem good4 {h l z : Int} (b : List UInt8) (hh : r64 h) (hl : r64 l) (hz : 0 ≤ z ∧ z < 256) (hlen : b.length ≤ 9223372036854775807) : GoodP Try.prog gl0 4 [.agg [.int .u64 h, .int .u64 l], bsS std fun _ => b, .int .u8 z] (rT std) := by
  obtain ⟨h, rfl, lh⟩ := r64_nat hh
  obtain ⟨l, rfl, ll⟩ := r64_nat hl
  refine fn_sound' (T := seatT) (G := g6) (X := noX) seatT_ok g6_ok noX_ok noI_ok mixed Try.func4 .one (fun A => [.agg [.int .u64 h, .int .u64 l], bsS A fun _ => b, .int .u8 z]) (fun A => rT A) fun A hA => ?_
  cbv
  repeat' (first | with_reducible exact True.intro | with_reducible exact dr_ok hA (by kernel_rfl) | with_reducible refine And.intro ?_ ?_ | (intro hc; cbv))
  all_goals (subst hA; simp [std, bsF_eq, bsL_lit, isBs_lit, isBs_lit2, bsL_drop, zsF_eq, zsL_lit, isZs_lit, bsL_cat, isBs_cat, str_lit] at *)
  all_goals have hbl := bb_le h l
  all_goals have hfl := bf_le h l
  all_goals first
    | exact ⟨hh, hl⟩
    | omega
    | (rw [bbErr_ok] at hc
       have hp := bb_len hc.1
       intro e
       rw [e] at hp
       split at hp <;> simp at hp)
    | (have hp : 0 < ((bbytes h l).length : Int) := by omega
       have t1 := Int.tmod_nonneg ((bbytes h l).length : Int) hz.1
       have t2 := Int.tmod_lt_of_pos z hp
       rw [w64 (n := z) (by omega)]
       omega)
    | (obtain ⟨k1, k2, k3⟩ := read_no b hc
       exact ⟨⟨k1, k2⟩, k3⟩)
    | (obtain ⟨k1, k2, k3, k4, k5, k6⟩ := read_bytes b hc
       exact ⟨r64_of k5, r64_of k6⟩)
    | (obtain ⟨k1, k2, k3, k4, k5, k6⟩ := read_bytes b hc
       intro e
       exact ⟨e, r64_of k5, r64_of k6⟩)
    | (obtain ⟨k1, k2, k3, k4, k5, k6⟩ := read_bytes b hc
       intro e1 e2 e3 e4
       exact ⟨⟨⟨⟨e1, e2⟩, e3⟩, e4⟩, by omega, by omega⟩)
    | (obtain ⟨k1, k2, k3, k4, k5, k6⟩ := read_bytes b hc
       rw [str_take b _ (by omega), k2]
       exact ⟨⟨⟨⟨bbErr_ok.2 k1, k1⟩, k3⟩, k4⟩, rfl⟩)
    | (rename_i hc1
       have hb := bbErr_ok.1 hc1.1
       obtain ⟨k1, k2, k3, k4⟩ := read_back lh ll hb b
       have k5 := of_fields lh ll hb
       have hp : 0 < ((bbytes h l).length : Int) := by omega
       have t1 := Int.tmod_nonneg ((bbytes h l).length : Int) hz.1
       have t2 := Int.tmod_lt_of_pos z hp
       rw [w64 (n := z) (by omega), bsL_takeN _ _ (by omega), read_cut lh hb _ (by omega)] at hc
       simp [k1, k2, k3, k4, boferr, bof, k5] at hc)
    | (rename_i hc1
       have := hc1 (bbErr_ok.2 hc)
       have hp := bb_len hc
       rw [this] at hp
       split at hp <;> simp at hp)
end Go.Vd
