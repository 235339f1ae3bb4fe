/- Bytes and back: what BitmapBack says. -/
import Derived.Test.YtakcggldilbilaaGreatDoorVdB7
import Derived.Test.YtakcggldilbilaaGreatDoorVdSimp
import Derived.Test.YtakcggldilbilaaGreatDoorVdLib
import Derived.Test.YtakcggldilbilaaGreatDoorVdG4
set_option linter.unusedVariables false
set_option linter.unusedSimpArgs false
set_option maxRecDepth 100000
set_option maxHeartbeats 1000000
namespace Go.Vd
open Go.Proofs
theorem be8_len (v : Nat) : (be8 v).length = 8 := by simp [be8]
theorem be8_get (v i : Nat) (h : i < 8) (r : List UInt8) : (be8 v ++ r).getD i 0 = byteAt v i := by
  rw [List.getD_eq_getElem?_getD, List.getElem?_append_left (by rw [be8_len]; exact h)]
  simp [be8, h]
theorem byteAt_nat (v i : Nat) : (byteAt v i).toNat = v / 256 ^ (7 - i) % 256 := by simp [byteAt]
theorem numTo_be8 (v : Nat) (hv : v < 18446744073709551616) (r : List UInt8) : ∀ k, k ≤ 8 → numTo (be8 v ++ r) k = v / 256 ^ (8 - k)
  | 0, _ => by
    simp only [numTo, List.take_zero, List.foldl_nil]
    rw [Nat.div_eq_of_lt]; exact hv
  | k + 1, h => by
    rw [numTo_succ _ _ (by simp [be8_len]; omega), numTo_be8 v hv r k (by omega), be8_get v k (by omega), byteAt_nat]
    rw [show 8 - k = (7 - k) + 1 by omega, Nat.pow_succ, ← Nat.div_div_eq_div_mul, show 8 - (k + 1) = 7 - k by omega]
    omega
theorem numTo_back (v : Nat) (hv : v < 18446744073709551616) (r : List UInt8) : numTo (be8 v ++ r) 8 = v := by
  rw [numTo_be8 v hv r 8 (by omega)]; simp
theorem numTo_div (L : List UInt8) (k : Nat) : ∀ d, k + d ≤ L.length → numTo L (k + d) / 256 ^ d = numTo L k
  | 0, _ => by simp
  | d + 1, h => by
    rw [← Nat.add_assoc, numTo_succ _ _ (by omega), Nat.pow_succ, Nat.mul_comm (256 ^ d), ← Nat.div_div_eq_div_mul]
    have := UInt8.toNat_lt (L.getD (k + d) 0)
    rw [show (numTo L (k + d) * 256 + (L.getD (k + d) 0).toNat) / 256 = numTo L (k + d) by omega]
    exact numTo_div L k d (by omega)
theorem byteAt_num (L : List UInt8) (h : 8 ≤ L.length) (i : Nat) (hi : i < 8) : byteAt (numTo L 8) i = L.getD i 0 := by
  apply UInt8.toNat_inj.1
  rw [byteAt_nat]
  have := numTo_div L (i + 1) (7 - i) (by omega)
  rw [show i + 1 + (7 - i) = 8 by omega] at this
  rw [this, numTo_succ _ _ (by omega)]
  have := UInt8.toNat_lt (L.getD i 0)
  omega
theorem be8_num (L : List UInt8) (h : 8 ≤ L.length) : be8 (numTo L 8) = L.take 8 := by
  apply List.ext_getElem
  · rw [be8_len]; simp; omega
  · intro i h1 h2
    rw [be8_len] at h1
    have := byteAt_num L h i h1
    rw [List.getD_eq_getElem?_getD, List.getElem?_eq_getElem (by omega)] at this
    simpa [be8] using this
theorem numTo_take (L : List UInt8) (c k : Nat) (h : k ≤ c) : numTo (L.take c) k = numTo L k := by
  unfold numTo
  rw [List.take_take, Nat.min_eq_left h]

theorem bb_len {h l : Nat} (hb : bright h l = true) : (bbytes h l).length = if h.testBit 63 then 16 else 8 := by
  unfold bbytes
  rw [hb]
  cases h.testBit 63 <;> simp [be8_len]
theorem bright_lo {h l : Nat} (hb : bright h l = true) (ht : h.testBit 63 = false) : l = 0 := by
  have := (bright_iff.1 hb).2
  rw [ht] at this
  have := of_decide_eq_false this.symm
  omega
/-- Read back, whatever is behind. -/
theorem read_back {h l : Nat} (hh : h < 18446744073709551616) (hl : l < 18446744073709551616) (hb : bright h l = true) (r : List UInt8) :
    brE (bbytes h l ++ r) = 0 ∧ br1 (bbytes h l ++ r) = h ∧ br2 (bbytes h l ++ r) = l ∧ brN (bbytes h l ++ r) = (bbytes h l).length := by
  have hlen := bb_len hb
  cases ht : h.testBit 63
  · have e : bbytes h l = be8 h := by simp [bbytes, hb, ht]
    rw [ht] at hlen
    simp only [Bool.false_eq_true, if_false] at hlen
    rw [e]
    rw [e] at hlen
    have hH : brH (be8 h ++ r) = h := numTo_back h hh r
    have hM : brM (be8 h ++ r) = false := by unfold brM; rw [hH, ht]
    have hL : brL (be8 h ++ r) = l := by unfold brL; rw [hM, bright_lo hb ht]; rfl
    have hE : brE (be8 h ++ r) = 0 := by
      unfold brE
      rw [hM, hH, hL, hb, if_neg (by simp [hlen])]; simp
    refine ⟨hE, ?_, ?_, ?_⟩
    · unfold br1; rw [hE, hH]; simp
    · unfold br2; rw [hE, hL]; simp
    · unfold brN; rw [hE, hM, hlen]; simp
  · have e : bbytes h l = be8 h ++ be8 l := by simp [bbytes, hb, ht]
    rw [ht] at hlen
    simp only [if_true] at hlen
    rw [e] at hlen ⊢
    rw [List.append_assoc]
    have hH : brH (be8 h ++ (be8 l ++ r)) = h := numTo_back h hh _
    have hM : brM (be8 h ++ (be8 l ++ r)) = true := by unfold brM; rw [hH, ht]
    have hL : brL (be8 h ++ (be8 l ++ r)) = l := by
      unfold brL; rw [hM, if_pos rfl, List.drop_append_of_le_length (by rw [be8_len]; exact Nat.le_refl _), List.drop_of_length_le (by rw [be8_len]; exact Nat.le_refl _), List.nil_append]
      exact numTo_back l hl r
    have hE : brE (be8 h ++ (be8 l ++ r)) = 0 := by
      unfold brE
      rw [hM, hH, hL, hb, if_neg (by simp [be8_len] <;> omega), if_neg (by simp [be8_len] <;> omega)]; simp
    refine ⟨hE, ?_, ?_, ?_⟩
    · unfold br1; rw [hE, hH]; simp
    · unfold br2; rw [hE, hL]; simp
    · unfold brN; rw [hE, hM, hlen]; simp
/-- Cut, too short. -/
theorem read_cut {h l : Nat} (hh : h < 18446744073709551616) (hb : bright h l = true) (c : Nat) (hc : c < (bbytes h l).length) : brE ((bbytes h l).take c) = 2 := by
  have hlen := bb_len hb
  have hl2 : ((bbytes h l).take c).length = c := by simp; omega
  unfold brE
  rw [hl2]
  by_cases h8 : c < 8
  · rw [if_pos h8]
  · rw [if_neg h8]
    cases ht : h.testBit 63
    · rw [ht] at hlen; simp only [Bool.false_eq_true, if_false] at hlen; omega
    · rw [ht] at hlen; simp only [if_true] at hlen
      have e : bbytes h l = be8 h ++ be8 l := by simp [bbytes, hb, ht]
      have hM : brM ((bbytes h l).take c) = true := by
        unfold brM brH
        rw [numTo_take _ _ _ (by omega), e, numTo_back h hh, ht]
      rw [hM, if_pos (by simp; omega)]
/-- What is read has just these bytes. -/
theorem read_bytes (L : List UInt8) (h : brE L = 0) : bright (br1 L) (br2 L) = true ∧ bbytes (br1 L) (br2 L) = L.take (brN L).toNat ∧ 0 < brN L ∧ brN L ≤ L.length ∧ br1 L < 18446744073709551616 ∧ br2 L < 18446744073709551616 := by
  have e1 : br1 L = brH L := by unfold br1; rw [h]; simp
  have e2 : br2 L = brL L := by unfold br2; rw [h]; simp
  have e3 : brN L = if brM L then 16 else 8 := by unfold brN; rw [h]; simp
  have h8 : 8 ≤ L.length := by
    refine Nat.le_of_not_lt fun hlt => ?_
    unfold brE at h; rw [if_pos hlt] at h; cases h
  have h16 : brM L = true → 16 ≤ L.length := by
    intro hM
    refine Nat.le_of_not_lt fun hlt => ?_
    unfold brE at h; rw [if_neg (by omega), hM, if_pos (by simp; omega)] at h; cases h
  have hb : bright (brH L) (brL L) = true := by
    cases hb : bright (brH L) (brL L)
    · unfold brE at h
      rw [if_neg (by omega), if_neg (by
        cases hM : brM L
        · simp
        · have := h16 hM; simp; omega), hb] at h
      cases h
    · rfl
  have r1 : brH L < 18446744073709551616 := Nat.lt_of_lt_of_le (numTo_lt L 8 h8) (by decide)
  rw [e1, e2, e3]
  refine ⟨hb, ?_, ?_, ?_, r1, ?_⟩
  · unfold bbytes
    rw [hb, if_pos rfl]
    cases hM : brM L
    · have : (brH L).testBit 63 = false := hM
      rw [this]
      simp only [Bool.false_eq_true, if_false]
      exact be8_num L h8
    · have : (brH L).testBit 63 = true := hM
      have hl := h16 hM
      rw [this]
      simp only [if_true]
      have hx : brL L = numTo (L.drop 8) 8 := by unfold brL; rw [hM]; rfl
      rw [hx, be8_num (L.drop 8) (by simp; omega), show brH L = numTo L 8 from rfl, be8_num L h8]
      have := List.take_add (l := L) (i := 8) (j := 8)
      exact this.symm
  · cases brM L <;> decide
  · cases hM : brM L
    · simp; omega
    · have := h16 hM; simp; omega
  · unfold brL
    cases hM : brM L
    · simp
    · have := h16 hM
      exact Nat.lt_of_lt_of_le (numTo_lt (L.drop 8) 8 (by simp; omega)) (by decide)

/-! ### The bitmap of its fields -/
theorem bright_ext {h l h' l' : Nat} (hh : h < 18446744073709551616) (hl : l < 18446744073709551616) (hh' : h' < 18446744073709551616) (hl' : l' < 18446744073709551616)
    (hb : bright h l = true) (hb' : bright h' l' = true) (hs : ∀ q : Int, bhas h l q = bhas h' l' q) : h = h' ∧ l = l' := by
  have e : l = l' := by
    apply Nat.eq_of_testBit_eq
    intro i
    by_cases hi : i < 63
    · have := hs (128 - i)
      have hf : bfield (128 - (i : Int)) = true := bfield_iff.2 ⟨by omega, by omega, by omega⟩
      unfold bhas at this
      rw [hf, if_neg (by omega), if_neg (by omega), show (128 - (128 - (i : Int))).toNat = i by omega] at this
      simpa using this
    · by_cases h63 : i = 63
      · subst h63; rw [(bright_iff.1 hb).1, (bright_iff.1 hb').1]
      · rw [Nat.testBit_lt_two_pow (Nat.lt_of_lt_of_le hl (by have := Nat.pow_le_pow_right (n := 2) (by decide) (show 64 ≤ i by omega); exact this)), Nat.testBit_lt_two_pow (Nat.lt_of_lt_of_le hl' (by have := Nat.pow_le_pow_right (n := 2) (by decide) (show 64 ≤ i by omega); exact this))]
  refine ⟨?_, e⟩
  apply Nat.eq_of_testBit_eq
  intro i
  by_cases hi : i < 63
  · have := hs (64 - i)
    have hf : bfield (64 - (i : Int)) = true := bfield_iff.2 ⟨by omega, by omega, by omega⟩
    unfold bhas at this
    rw [hf, if_pos (by omega), if_pos (by omega), show (64 - (64 - (i : Int))).toNat = i by omega] at this
    simpa using this
  · by_cases h63 : i = 63
    · subst h63; rw [(bright_iff.1 hb).2, (bright_iff.1 hb').2, e]
    · rw [Nat.testBit_lt_two_pow (Nat.lt_of_lt_of_le hh (by have := Nat.pow_le_pow_right (n := 2) (by decide) (show 64 ≤ i by omega); exact this)), Nat.testBit_lt_two_pow (Nat.lt_of_lt_of_le hh' (by have := Nat.pow_le_pow_right (n := 2) (by decide) (show 64 ≤ i by omega); exact this))]
theorem bofS_snoc (L : List Int) (n : Int) : bofS (L ++ [n]) = (bofS L).bind fun m => if bright m.1 m.2 && bfield n then some (bput m.1 m.2 n) else none := by
  unfold bofS
  rw [List.foldl_append]
  rfl
theorem of_fieldsTo (h l : Nat) : ∀ d, d ≤ 127 → ∃ a b, bofS (bfieldsTo h l (2 + d)) = some (a, b) ∧ bright a b = true ∧ a < 18446744073709551616 ∧ b < 18446744073709551616 ∧ ∀ q : Int, bhas a b q = (bhas h l q && decide (q < 2 + d))
  | 0, _ => by
    refine ⟨0, 0, rfl, by decide, by decide, by decide, fun q => ?_⟩
    have h0 : bhas 0 0 q = false := by unfold bhas; split <;> simp
    rw [h0]
    cases hb : bhas h l q
    · simp
    · have hf : bfield q = true := by unfold bhas at hb; simp at hb; exact hb.1
      have := (bfield_iff.1 hf).1
      simp; omega
  | d + 1, hd => by
    obtain ⟨a, b, h1, h2, h3, h4, h5⟩ := of_fieldsTo h l d (by omega)
    have hs := bfieldsTo_succ h l (2 + d) (by omega)
    rw [show 2 + (d + 1) = 2 + d + 1 by omega]
    cases hb : bhas h l ((2 + d : Nat) : Int)
    · rw [hb] at hs
      refine ⟨a, b, by rw [hs]; simpa using h1, h2, h3, h4, fun q => ?_⟩
      rw [h5]
      by_cases hq : q = ((2 + d : Nat) : Int)
      · subst hq; rw [hb]; simp
      · congr 1
        rw [decide_eq_decide]; omega
    · rw [hb, if_pos rfl] at hs
      have hf : bfield ((2 + d : Nat) : Int) = true := by unfold bhas at hb; simp only [Bool.and_eq_true] at hb; exact hb.1
      refine ⟨(bput a b ((2 + d : Nat) : Int)).1, (bput a b ((2 + d : Nat) : Int)).2, ?_, bput_bright h2 hf, (bput_lt _ h3 h4).1, (bput_lt _ h3 h4).2, fun q => ?_⟩
      · rw [hs, bofS_snoc, h1]
        simp only [Option.bind_some, h2, hf, Bool.and_self, if_true]
      · by_cases hq : q = ((2 + d : Nat) : Int)
        · subst hq; rw [bput_has h2 hf, hb]; simp; omega
        · rw [bput_other h2 hf hq, h5]
          congr 1
          rw [decide_eq_decide]; omega
theorem of_fields {h l : Nat} (hh : h < 18446744073709551616) (hl : l < 18446744073709551616) (hb : bright h l = true) : bofS (bfields h l) = some (h, l) := by
  obtain ⟨a, b, h1, h2, h3, h4, h5⟩ := of_fieldsTo h l 127 (by omega)
  have := bright_ext h3 h4 hh hl h2 hb (fun q => by
    rw [h5]
    cases hq : bhas h l q
    · rfl
    · have hf : bfield q = true := by unfold bhas at hq; simp only [Bool.and_eq_true] at hq; exact hq.1
      have := (bfield_iff.1 hf).2.1
      simp; omega)
  rw [this.1, this.2] at h1
  exact h1
end Go.Vd

set_option linter.unusedVariables false
set_option linter.unusedSimpArgs false
set_option maxRecDepth 100000
set_option maxHeartbeats 4000000
namespace Go.Vd
open Go.Proofs
theorem dOk_bf {n : Int} (h : dOk n = true) : bfield n = true := by
  have hb := dOk_b h
  refine bfield_iff.2 ⟨by omega, by omega, fun e => ?_⟩
  subst e
  exact absurd h (by decide)
theorem rr_bf {n : Int} {s : List UInt8} (h : rr n s = true) : bfield n = true := dOk_bf (rr_ok h).1
/-! ### Lists that rise -/
def ups (F : List Int) : Prop := F.Pairwise (· < ·)
theorem ups_adj {F : List Int} : (∀ i, 0 < i → i < F.length → F.getD (i - 1) 0 < F.getD i 0) → ups F := by
  intro h
  refine List.pairwise_iff_getElem.2 fun i j hi hj hij => ?_
  have key : ∀ d i, i + d + 1 < F.length → F.getD i 0 < F.getD (i + d + 1) 0 := by
    intro d
    induction d with
    | zero => intro i hi; exact h (i + 1) (by omega) hi
    | succ d ih => intro i hi; exact Int.lt_trans (ih i (by omega)) (h (i + (d + 1) + 1) (by omega) hi)
  have := key (j - i - 1) i (by omega)
  rw [show i + (j - i - 1) + 1 = j by omega] at this
  simpa [List.getD_eq_getElem?_getD, hi, hj] using this
theorem ups_ext : ∀ {F G : List Int}, ups F → ups G → (∀ q, q ∈ F ↔ q ∈ G) → F = G
  | [], [], _, _, _ => rfl
  | [], b :: G, _, _, h => by have := (h b).2 (by simp); simp at this
  | a :: F, [], _, _, h => by have := (h a).1 (by simp); simp at this
  | a :: F, b :: G, h1, h2, h => by
    have p1 := List.pairwise_cons.1 h1
    have p2 := List.pairwise_cons.1 h2
    have e : a = b := by
      rcases List.mem_cons.1 ((h a).1 (by simp)) with e | e
      · exact e
      · rcases List.mem_cons.1 ((h b).2 (by simp)) with e' | e'
        · exact e'.symm
        · have := p1.1 b e'; have := p2.1 a e; omega
    subst e
    refine congrArg (a :: ·) (ups_ext p1.2 p2.2 fun q => ?_)
    constructor
    · intro hq
      rcases List.mem_cons.1 ((h q).1 (List.mem_cons_of_mem _ hq)) with e | e
      · subst e; have := p1.1 q hq; omega
      · exact e
    · intro hq
      rcases List.mem_cons.1 ((h q).2 (List.mem_cons_of_mem _ hq)) with e | e
      · subst e; have := p2.1 q hq; omega
      · exact e
/-! ### The bitmap of fields that rise -/
theorem bof_gen : ∀ (F : List Int) (h l : Nat), bright h l = true → h < 18446744073709551616 → l < 18446744073709551616 → (∀ q ∈ F, bfield q = true) →
    ∃ a b, F.foldl (fun o n => o.bind fun m => if bright m.1 m.2 && bfield n then some (bput m.1 m.2 n) else none) (some (h, l)) = some (a, b) ∧ bright a b = true ∧ a < 18446744073709551616 ∧ b < 18446744073709551616 ∧ ∀ q, bhas a b q = (bhas h l q || decide (q ∈ F))
  | [], h, l, hb, hh, hl, _ => ⟨h, l, rfl, hb, hh, hl, fun q => by simp⟩
  | n :: F, h, l, hb, hh, hl, hF => by
    have hf := hF n (by simp)
    obtain ⟨a, b, h1, h2, h3, h4, h5⟩ := bof_gen F (bput h l n).1 (bput h l n).2 (bput_bright hb hf) (bput_lt n hh hl).1 (bput_lt n hh hl).2 (fun q hq => hF q (List.mem_cons_of_mem _ hq))
    refine ⟨a, b, ?_, h2, h3, h4, fun q => ?_⟩
    · rw [List.foldl_cons, ← h1]
      simp only [Option.bind_some, hb, hf, Bool.and_self, if_true]
    · rw [h5]
      by_cases hq : q = n
      · subst hq; rw [bput_has hb hf]; simp
      · rw [bput_other hb hf hq]; simp [hq]
theorem bfields_mem {a b : Nat} {q : Int} : q ∈ bfields a b ↔ bhas a b q = true := by
  unfold bfields bfieldsTo
  rw [List.mem_filter]
  constructor
  · exact fun h => h.2
  · intro h
    refine ⟨?_, h⟩
    have hf : bfield q = true := by unfold bhas at h; simp only [Bool.and_eq_true] at h; exact h.1
    have := bfield_iff.1 hf
    refine List.mem_map.2 ⟨q.toNat, ?_, by simp; omega⟩
    rw [List.mem_range']
    exact ⟨q.toNat - 2, by omega, by omega⟩
theorem bfields_ups (a b : Nat) : ups (bfields a b) := by
  unfold ups bfields bfieldsTo
  refine List.Pairwise.filter _ ?_
  rw [List.pairwise_map]
  have := List.pairwise_lt_range' (s := 2) (n := 127)
  refine List.Pairwise.imp ?_ this
  intro x y h
  simp
  exact h
theorem bof_ups {F : List Int} (hu : ups F) (hF : ∀ q ∈ F, bfield q = true) :
    bofS F = some (bof F) ∧ bright (bof F).1 (bof F).2 = true ∧ (bof F).1 < 18446744073709551616 ∧ (bof F).2 < 18446744073709551616 ∧ bfields (bof F).1 (bof F).2 = F ∧ boferr F = 0 := by
  obtain ⟨a, b, h1, h2, h3, h4, h5⟩ := bof_gen F 0 0 (by decide) (by decide) (by decide) hF
  have h1 : bofS F = some (a, b) := h1
  have e : bof F = (a, b) := by unfold bof; rw [h1]; rfl
  rw [e]
  refine ⟨h1, h2, h3, h4, ups_ext (bfields_ups a b) hu fun q => ?_, by unfold boferr; rw [h1]; rfl⟩
  rw [bfields_mem, h5]
  have h0 : bhas 0 0 q = false := by unfold bhas; split <;> simp
  rw [h0]; simp
/-! ### Written -/
def fs (L : List It) : List Int := L.map Prod.fst
def body (L : List It) : List UInt8 := (L.map fun x => fWr x.1 x.2).flatten
theorem body_cons (x : It) (L : List It) : body (x :: L) = fWr x.1 x.2 ++ body L := rfl
theorem body_app (L M : List It) : body (L ++ M) = body L ++ body M := by simp [body]
def mBits (L : List It) : List UInt8 := bbytes (bof (fs L)).1 (bof (fs L)).2
def mW (T : List UInt8) (L : List It) : List UInt8 := T ++ (mBits L ++ body L)
theorem mR_iff {T : List UInt8} {L : List It} : mR T L = true ↔ mT T = true ∧ ¬L = [] ∧ (∀ x ∈ L, rr x.1 x.2 = true) ∧ ups (fs L) := by
  have e1 : mUp L L.length = true ↔ (∀ x ∈ L, rr x.1 x.2 = true) ∧ ups (fs L) := by
    unfold mUp
    rw [List.all_eq_true]
    have hget : ∀ i, (fs L).getD i 0 = (L.getD i (0, [])).1 := by
      intro i
      simp [fs, List.getD_eq_getElem?_getD, List.getElem?_map]
      cases L[i]? <;> rfl
    constructor
    · intro h
      have hi : ∀ i, i < L.length → mOk L i = true := fun i hi => h i (List.mem_range.2 hi)
      refine ⟨fun x hx => ?_, ups_adj fun i h0 hl => ?_⟩
      · obtain ⟨i, hl, rfl⟩ := List.mem_iff_getElem.1 hx
        have := hi i hl
        unfold mOk at this
        simp only [Bool.and_eq_true] at this
        simpa [List.getD_eq_getElem?_getD, hl] using this.2
      · have hl' : i < L.length := by simpa [fs] using hl
        have := hi i hl'
        unfold mOk at this
        simp only [Bool.and_eq_true, Bool.or_eq_true, beq_iff_eq, decide_eq_true_eq] at this
        rw [hget, hget]
        rcases this.1 with e | e
        · omega
        · exact e
    · rintro ⟨h1, h2⟩ i hi
      have hl := List.mem_range.1 hi
      refine mOk_yes (fun h0 => ?_) ?_
      · rw [← hget, ← hget]
        have hl' : i < (fs L).length := by simpa [fs] using hl
        have := List.pairwise_iff_getElem.1 h2 (i - 1) i (by omega) hl' (by omega)
        simpa [List.getD_eq_getElem?_getD, hl', show i - 1 < (fs L).length by omega] using this
      · have := h1 _ (List.getElem_mem hl)
        simpa [List.getD_eq_getElem?_getD, hl] using this
  unfold mR
  simp only [Bool.and_eq_true, e1]
  cases L with
  | nil => simp
  | cons a l => simp
theorem mT_len {T : List UInt8} (h : mT T = true) : T.length = 4 := by
  unfold mT at h
  simp only [List.contains_cons, List.contains_nil, Bool.or_eq_true, beq_iff_eq, Bool.or_false] at h
  rcases h with rfl | rfl | rfl | rfl | rfl | rfl | rfl <;> rfl
theorem fs_bf {L : List It} (h : ∀ x ∈ L, rr x.1 x.2 = true) : ∀ q ∈ fs L, bfield q = true := by
  intro q hq
  obtain ⟨x, hx, rfl⟩ := List.mem_map.1 hq
  exact rr_bf (h x hx)
/-! ### Read -/
/-- A field more: what is wrong, what is there, what is left. -/
def itStep (o : Int × List It × List UInt8) (f : Int) : Int × List It × List UInt8 :=
  if o.1 = 0 then (if (fRd f o.2.2).2.2 = 0 then (0, o.2.1 ++ [(f, (fRd f o.2.2).1)], o.2.2.drop (fRd f o.2.2).2.1) else ((fRd f o.2.2).2.2, [], [])) else o
def itF (F : List Int) (B : List UInt8) : Int × List It × List UInt8 := F.foldl itStep (0, [], B)
theorem it_stop : ∀ (F : List Int) (o : Int × List It × List UInt8), ¬o.1 = 0 → F.foldl itStep o = o
  | [], _, _ => rfl
  | f :: F, o, h => by
    rw [List.foldl_cons, show itStep o f = o from if_neg h]
    exact it_stop F o h
theorem it_yes {acc : List It} {B : List UInt8} {f : Int} (h : (fRd f B).2.2 = 0) : itStep (0, acc, B) f = (0, acc ++ [(f, (fRd f B).1)], B.drop (fRd f B).2.1) := by
  unfold itStep; rw [if_pos rfl, if_pos h]
theorem it_no {acc : List It} {B : List UInt8} {f : Int} (h : ¬(fRd f B).2.2 = 0) : itStep (0, acc, B) f = ((fRd f B).2.2, [], []) := by
  unfold itStep; rw [if_pos rfl, if_neg h]
theorem itF_snoc (F : List Int) (f : Int) (B : List UInt8) : itF (F ++ [f]) B = itStep (itF F B) f := by
  unfold itF; rw [List.foldl_append]; rfl
theorem it_back : ∀ (L acc : List It) (X : List UInt8), (∀ x ∈ L, rr x.1 x.2 = true) → (fs L).foldl itStep (0, acc, body L ++ X) = (0, acc ++ L, X)
  | [], acc, X, _ => by simp [fs, body]
  | x :: L, acc, X, h => by
    have hr := fR_back (h x (by simp)) (body L ++ X)
    rw [body_cons, List.append_assoc]
    show (fs L).foldl itStep (itStep (0, acc, _) x.1) = _
    rw [it_yes (by rw [hr]), hr]
    simp only [List.drop_left]
    rw [it_back L _ X fun y hy => h y (List.mem_cons_of_mem _ hy)]
    simp
theorem it_cut : ∀ (L acc : List It) (c : Nat), (∀ x ∈ L, rr x.1 x.2 = true) → c < (body L).length → ((fs L).foldl itStep (0, acc, (body L).take c)).1 = 2
  | [], acc, c, _, hc => by simp [body] at hc
  | x :: L, acc, c, h, hc => by
    rw [body_cons] at hc ⊢
    show ((fs L).foldl itStep (itStep (0, acc, _) x.1)).1 = _
    by_cases h1 : c < (fWr x.1 x.2).length
    · have hr := fR_cut (h x (by simp)) h1
      rw [List.take_append_of_le_length (by omega), it_no (by rw [hr]; decide), it_stop _ _ (by simp only; rw [hr]; decide)]
      exact hr
    · have hr := fR_back (h x (by simp)) ((body L).take (c - (fWr x.1 x.2).length))
      have ht : (fWr x.1 x.2 ++ body L).take c = fWr x.1 x.2 ++ (body L).take (c - (fWr x.1 x.2).length) := by
        rw [List.take_append, List.take_of_length_le (by omega)]
      rw [ht, it_yes (by rw [hr]), hr]
      simp only [List.drop_left]
      rw [List.length_append] at hc
      exact it_cut L _ _ (fun y hy => h y (List.mem_cons_of_mem _ hy)) (by omega)
theorem it_good : ∀ (F : List Int) (acc R : List It) (B C : List UInt8), F.foldl itStep (0, acc, B) = (0, R, C) → ∃ L, R = acc ++ L ∧ fs L = F ∧ (∀ x ∈ L, rr x.1 x.2 = true) ∧ B = body L ++ C
  | [], acc, R, B, C, h => by
    simp only [List.foldl_nil, Prod.mk.injEq, true_and] at h
    exact ⟨[], by simp [h.1], rfl, by simp, by simp [body, h.2]⟩
  | f :: F, acc, R, B, C, h => by
    rw [List.foldl_cons] at h
    by_cases h0 : (fRd f B).2.2 = 0
    · rw [it_yes h0] at h
      obtain ⟨L, h1, h2, h3, h4⟩ := it_good F _ R _ C h
      obtain ⟨g1, g2, g3, g4⟩ := fR_good h0
      refine ⟨(f, (fRd f B).1) :: L, by simp [h1], by simp [fs] at h2 ⊢; exact h2, ?_, ?_⟩
      · intro x hx
        rcases List.mem_cons.1 hx with rfl | hx
        · exact g1
        · exact h3 x hx
      · rw [body_cons, g4, List.append_assoc, ← h4, List.take_append_drop]
    · rw [it_no h0, it_stop _ _ h0] at h
      have := congrArg Prod.fst h
      exact absurd this h0
def mC (B : List UInt8) : List UInt8 := B.drop 4
def mFs (B : List UInt8) : List Int := bfields (br1 (mC B)) (br2 (mC B))
def mIt (B : List UInt8) : Int × List It × List UInt8 := itF (mFs B) ((mC B).drop (brN (mC B)).toNat)
def mRe (B : List UInt8) : Int :=
  if B.length < 4 then 2 else if mT (B.take 4) = false then 3 else if ¬brE (mC B) = 0 then brE (mC B) else if mFs B = [] then 3 else if ¬(mIt B).1 = 0 then (mIt B).1 else if (mIt B).2.2 = [] then 0 else 4
def mRT (B : List UInt8) : List UInt8 := if mRe B = 0 then B.take 4 else []
def mRL (B : List UInt8) : List It := if mRe B = 0 then (mIt B).2.1 else []
theorem mRe_1 {B : List UInt8} (h : B.length < 4) : mRe B = 2 := if_pos h
theorem mRe_2 {B : List UInt8} (h : ¬B.length < 4) (h1 : mT (B.take 4) = false) : mRe B = 3 := by unfold mRe; rw [if_neg h, if_pos h1]
theorem mRe_3 {B : List UInt8} (h : ¬B.length < 4) (h1 : mT (B.take 4) = true) (h2 : ¬brE (mC B) = 0) : mRe B = brE (mC B) := by
  unfold mRe; rw [if_neg h, if_neg (by rw [h1]; simp), if_pos h2]
theorem mRe_4 {B : List UInt8} (h : ¬B.length < 4) (h1 : mT (B.take 4) = true) (h2 : brE (mC B) = 0) (h3 : mFs B = []) : mRe B = 3 := by
  unfold mRe; rw [if_neg h, if_neg (by rw [h1]; simp), if_neg (fun e => e h2), if_pos h3]
theorem mRe_5 {B : List UInt8} (h : ¬B.length < 4) (h1 : mT (B.take 4) = true) (h2 : brE (mC B) = 0) (h3 : ¬mFs B = []) (h4 : ¬(mIt B).1 = 0) : mRe B = (mIt B).1 := by
  unfold mRe; rw [if_neg h, if_neg (by rw [h1]; simp), if_neg (fun e => e h2), if_neg h3, if_pos h4]
theorem mRe_6 {B : List UInt8} (h : ¬B.length < 4) (h1 : mT (B.take 4) = true) (h2 : brE (mC B) = 0) (h3 : ¬mFs B = []) (h4 : (mIt B).1 = 0) : mRe B = if (mIt B).2.2 = [] then 0 else 4 := by
  unfold mRe; rw [if_neg h, if_neg (by rw [h1]; simp), if_neg (fun e => e h2), if_neg h3, if_neg (fun e => e h4)]
theorem fs_ne {L : List It} (h : ¬L = []) : ¬fs L = [] := fun e => h (List.map_eq_nil_iff.1 e)
/-- Read back, and what is behind. -/
theorem mw_read {T : List UInt8} {L : List It} (h : mR T L = true) (X : List UInt8) :
    (mC (mW T L ++ X)) = mBits L ++ (body L ++ X) ∧ mFs (mW T L ++ X) = fs L ∧ mIt (mW T L ++ X) = (0, L, X) ∧ brE (mC (mW T L ++ X)) = 0 ∧ (mW T L ++ X).take 4 = T ∧ ¬(mW T L ++ X).length < 4 := by
  obtain ⟨h1, h2, h3, h4⟩ := mR_iff.1 h
  have hT := mT_len h1
  obtain ⟨b1, b2, b3, b4, b5, b6⟩ := bof_ups h4 (fs_bf h3)
  have hC : mC (mW T L ++ X) = mBits L ++ (body L ++ X) := by
    unfold mC mW
    rw [List.append_assoc, List.drop_append_of_le_length (by omega), List.drop_of_length_le (by omega), List.nil_append, List.append_assoc]
  obtain ⟨r1, r2, r3, r4⟩ := read_back b3 b4 b2 (body L ++ X)
  have hF : mFs (mW T L ++ X) = fs L := by
    unfold mFs; rw [hC]; unfold mBits; rw [r2, r3, b5]
  refine ⟨hC, hF, ?_, ?_, ?_, ?_⟩
  · unfold mIt; rw [hF, hC]; unfold mBits; rw [r4, Int.toNat_natCast, List.drop_left]
    have := it_back L [] X h3
    simpa [itF] using this
  · rw [hC]; exact r1
  · unfold mW; rw [List.append_assoc, List.take_append_of_le_length (by omega), List.take_of_length_le (by omega)]
  · unfold mW; simp; omega
theorem mR_back {T : List UInt8} {L : List It} (h : mR T L = true) : mRe (mW T L) = 0 ∧ mRT (mW T L) = T ∧ mRL (mW T L) = L := by
  obtain ⟨h1, h2, h3, h4⟩ := mR_iff.1 h
  obtain ⟨c1, c2, c3, c4, c5, c6⟩ := mw_read h []
  rw [List.append_nil] at c1 c2 c3 c4 c5 c6
  have e : mRe (mW T L) = 0 := by
    rw [mRe_6 c6 (by rw [c5]; exact h1) c4 (by rw [c2]; exact fs_ne h2) (by rw [c3]), c3]; rfl
  refine ⟨e, ?_, ?_⟩
  · unfold mRT; rw [if_pos e, c5]
  · unfold mRL; rw [if_pos e, c3]
theorem mR_more {T : List UInt8} {L : List It} (h : mR T L = true) (x : UInt8) : mRe (mW T L ++ [x]) = 4 := by
  obtain ⟨h1, h2, h3, h4⟩ := mR_iff.1 h
  obtain ⟨c1, c2, c3, c4, c5, c6⟩ := mw_read h [x]
  rw [mRe_6 c6 (by rw [c5]; exact h1) c4 (by rw [c2]; exact fs_ne h2) (by rw [c3]), c3]; rfl
theorem mR_cut {T : List UInt8} {L : List It} (h : mR T L = true) {c : Nat} (hc : c < (mW T L).length) : mRe ((mW T L).take c) = 2 := by
  obtain ⟨h1, h2, h3, h4⟩ := mR_iff.1 h
  have hT := mT_len h1
  obtain ⟨b1, b2, b3, b4, b5, b6⟩ := bof_ups h4 (fs_bf h3)
  have hl : ((mW T L).take c).length = c := by rw [List.length_take]; omega
  by_cases hc4 : c < 4
  · exact mRe_1 (by omega)
  · have ht : (mW T L).take c = T ++ (mBits L ++ body L).take (c - 4) := by
      unfold mW; rw [List.take_append, List.take_of_length_le (by omega), hT]
    have hC : mC ((mW T L).take c) = (mBits L ++ body L).take (c - 4) := by
      rw [ht]; unfold mC; rw [List.drop_append_of_le_length (by omega), List.drop_of_length_le (by omega), List.nil_append]
    have hT4 : ((mW T L).take c).take 4 = T := by rw [ht, List.take_append_of_le_length (by omega), List.take_of_length_le (by omega)]
    unfold mW at hc
    rw [List.length_append, List.length_append] at hc
    by_cases hb : c - 4 < (mBits L).length
    · have : brE (mC ((mW T L).take c)) = 2 := by
        rw [hC, List.take_append_of_le_length (by omega)]
        exact read_cut b3 b2 _ hb
      rw [mRe_3 (by omega) (by rw [hT4]; exact h1) (by rw [this]; decide), this]
    · have hC2 : mC ((mW T L).take c) = mBits L ++ (body L).take (c - 4 - (mBits L).length) := by
        rw [hC, List.take_append, List.take_of_length_le (by omega)]
      obtain ⟨X, hX⟩ : ∃ X, X = (body L).take (c - 4 - (mBits L).length) := ⟨_, rfl⟩
      rw [← hX] at hC2
      have r : brE (mBits L ++ X) = 0 ∧ br1 (mBits L ++ X) = (bof (fs L)).1 ∧ br2 (mBits L ++ X) = (bof (fs L)).2 ∧ brN (mBits L ++ X) = (mBits L).length := read_back b3 b4 b2 X
      obtain ⟨r1, r2, r3, r4⟩ := r
      have hF : mFs ((mW T L).take c) = fs L := by unfold mFs; rw [hC2, r2, r3, b5]
      have hI : (mIt ((mW T L).take c)).1 = 2 := by
        unfold mIt
        rw [hF, hC2, r4, Int.toNat_natCast, List.drop_left, hX]
        exact it_cut L [] _ h3 (by omega)
      rw [mRe_5 (by omega) (by rw [hT4]; exact h1) (by rw [hC2]; exact r1) (by rw [hF]; exact fs_ne h2) (by rw [hI]; decide), hI]
theorem mR_good {B : List UInt8} (h : mRe B = 0) : mR (mRT B) (mRL B) = true ∧ mW (mRT B) (mRL B) = B := by
  have hl : ¬B.length < 4 := fun e => by rw [mRe_1 e] at h; cases h
  have h1 : mT (B.take 4) = true := by
    cases e : mT (B.take 4)
    · rw [mRe_2 hl e] at h; cases h
    · rfl
  have h2 : brE (mC B) = 0 := by
    by_cases e : brE (mC B) = 0
    · exact e
    · rw [mRe_3 hl h1 e] at h; exact absurd h e
  have h3 : ¬mFs B = [] := fun e => by rw [mRe_4 hl h1 h2 e] at h; cases h
  have h4 : (mIt B).1 = 0 := by
    by_cases e : (mIt B).1 = 0
    · exact e
    · rw [mRe_5 hl h1 h2 h3 e] at h; exact absurd h e
  have h5 : (mIt B).2.2 = [] := by
    by_cases e : (mIt B).2.2 = []
    · exact e
    · rw [mRe_6 hl h1 h2 h3 h4, if_neg e] at h; cases h
  have eT : mRT B = B.take 4 := if_pos h
  have eL : mRL B = (mIt B).2.1 := if_pos h
  have hI : mIt B = (0, (mIt B).2.1, []) := Prod.ext h4 (Prod.ext rfl h5)
  obtain ⟨L, g1, g2, g3, g4⟩ := it_good (mFs B) [] (mIt B).2.1 _ [] hI
  rw [List.nil_append] at g1
  rw [List.append_nil] at g4
  obtain ⟨k1, k2, k3, k4, k5, k6⟩ := read_bytes (mC B) h2
  have hu : ups (fs L) := by rw [g2]; exact bfields_ups _ _
  have hne : ¬L = [] := fun e => h3 (by rw [← g2, e]; rfl)
  rw [eT, eL, g1]
  refine ⟨mR_iff.2 ⟨h1, hne, g3, hu⟩, ?_⟩
  have hbits : mBits L = (mC B).take (brN (mC B)).toNat := by
    unfold mBits
    have e : bofS (fs L) = some (br1 (mC B), br2 (mC B)) := by rw [g2]; exact of_fields k5 k6 k1
    have e2 : bof (fs L) = (br1 (mC B), br2 (mC B)) := by unfold bof; rw [e]; rfl
    rw [e2]; exact k2
  unfold mW
  rw [hbits, ← g4, List.take_append_drop]
  exact List.take_append_drop 4 B
theorem mR_bad {B : List UInt8} (h : ¬mRe B = 0) : mRT B = [] ∧ mRL B = [] := ⟨if_neg h, if_neg h⟩
theorem mW_inj {T U : List UInt8} {L M : List It} (h : mR T L = true) (h' : mR U M = true) : mW T L = mW U M ↔ T = U ∧ L = M := by
  constructor
  · intro e
    have a := mR_back h
    have b := mR_back h'
    rw [e] at a
    exact ⟨a.2.1.symm.trans b.2.1, a.2.2.symm.trans b.2.2⟩
  · rintro ⟨rfl, rfl⟩; rfl
theorem mW_ne {T : List UInt8} {L : List It} (h : mR T L = true) : 12 ≤ (mW T L).length := by
  obtain ⟨h1, h2, h3, h4⟩ := mR_iff.1 h
  have hT := mT_len h1
  obtain ⟨b1, b2, b3, b4, b5, b6⟩ := bof_ups h4 (fs_bf h3)
  have := bb_len b2
  unfold mW mBits
  rw [List.length_append, List.length_append, this]
  split <;> omega
/-! ### Got -/
def mG (L : List It) (n : Int) : List UInt8 := ((L.find? fun x => x.1 == n).getD (0, [])).2
def mH (L : List It) (n : Int) : Bool := (L.find? fun x => x.1 == n).isSome
theorem mG_at {L : List It} {n : Int} {i : Nat} (hi : i < L.length) (h0 : ∀ j, j < i → ¬(L.getD j (0, [])).1 = n) (h : (L.getD i (0, [])).1 = n) : mG L n = (L.getD i (0, [])).2 ∧ mH L n = true := by
  have : L.find? (fun x => x.1 == n) = some (L.getD i (0, [])) := by
    rw [List.find?_eq_some_iff_getElem]
    refine ⟨by simpa using h, i, hi, by simp [List.getD_eq_getElem?_getD, hi], fun j hj => ?_⟩
    have := h0 j hj
    simpa [List.getD_eq_getElem?_getD, show j < L.length by omega] using this
  unfold mG mH
  rw [this]
  exact ⟨rfl, rfl⟩
theorem mG_none {L : List It} {n : Int} (h0 : ∀ j, j < L.length → ¬(L.getD j (0, [])).1 = n) : mG L n = [] ∧ mH L n = false := by
  have : L.find? (fun x => x.1 == n) = none := by
    rw [List.find?_eq_none]
    intro x hx
    obtain ⟨j, hj, rfl⟩ := List.mem_iff_getElem.1 hx
    have := h0 j hj
    simpa [List.getD_eq_getElem?_getD, hj] using this
  unfold mG mH
  rw [this]
  exact ⟨rfl, rfl⟩
theorem ups_ne {L : List It} (hu : ups (fs L)) {i j : Nat} (hij : j < i) (hi : i < L.length) : ¬(L.getD j (0, [])).1 = (L.getD i (0, [])).1 := by
  have := List.pairwise_iff_getElem.1 hu j i (by simp [fs]; omega) (by simpa [fs] using hi) hij
  simp [fs] at this
  simp [List.getD_eq_getElem?_getD, hi, show j < L.length by omega]
  omega
theorem mH_mem (L : List It) (n : Int) : mH L n = L.any fun x => x.1 == n := by
  unfold mH
  rw [Bool.eq_iff_iff, List.find?_isSome]
  simp
end Go.Vd

set_option linter.unusedVariables false
set_option linter.unusedSimpArgs false
set_option maxRecDepth 100000
set_option maxHeartbeats 4000000
namespace Go.Vd
open Go.Proofs
def tyOf (k : Int) : List UInt8 := if k = 1 then [48, 49, 48, 48] else if k = 2 then [48, 49, 49, 48] else if k = 3 then [48, 52, 48, 48] else if k = 4 then [48, 52, 49, 48] else if k = 5 then [48, 52, 50, 48] else if k = 6 then [48, 52, 50, 49] else if k = 7 then [48, 52, 51, 48] else []
def kdOf (T : List UInt8) : Int := if T = [48, 49, 48, 48] then 1 else if T = [48, 49, 49, 48] then 2 else if T = [48, 52, 48, 48] then 3 else if T = [48, 52, 49, 48] then 4 else if T = [48, 52, 50, 48] then 5 else if T = [48, 52, 50, 49] then 6 else if T = [48, 52, 51, 48] then 7 else 0
def fOf (k : Int) : List Int := if k = 5 ∨ k = 6 then [2, 4, 11, 37, 90] else if dAsks k = true then [2, 4, 11, 37] else [11, 37, 39]
/-- What field 90 must be. -/
def frst (x : List UInt8) : List UInt8 := [48, 49, 48, 48] ++ (x ++ List.replicate 32 48)
def dIs (k a s : Int) (p r c : List UInt8) : List It := if k = 5 ∨ k = 6 then [(2, p), (4, puS a 12), (11, puS s 6), (37, r), (90, frst (puS s 6))] else if dAsks k = true then [(2, p), (4, puS a 12), (11, puS s 6), (37, r)] else [(11, puS s 6), (37, r), (39, c)]
def tl (k : Int) : Bool := decide (k = 5) || decide (k = 6)
theorem tl_iff {k : Int} : tl k = true ↔ k = 5 ∨ k = 6 := by simp [tl]
theorem fo2 : dOk 2 = true ∧ dKd 2 = 3 ∧ dSz 2 = 19 := by decide +kernel
theorem fo4 : dOk 4 = true ∧ dKd 4 = 1 ∧ dSz 4 = 12 := by decide +kernel
theorem fo11 : dOk 11 = true ∧ dKd 11 = 1 ∧ dSz 11 = 6 := by decide +kernel
theorem fo90 : dOk 90 = true ∧ dKd 90 = 1 ∧ dSz 90 = 42 := by decide +kernel
theorem fo37 : dOk 37 = true ∧ dKd 37 = 2 ∧ dSz 37 = 12 := by decide +kernel
theorem fo39 : dOk 39 = true ∧ dKd 39 = 2 ∧ dSz 39 = 2 := by decide +kernel
theorem rr2 {p : List UInt8} : rr 2 p = true ↔ (1 ≤ (p.length : Int) ∧ (p.length : Int) ≤ 19) ∧ isD p = true := by rw [rr_of3 fo2.1 fo2.2.1, fo2.2.2]
theorem rr4 {p : List UInt8} : rr 4 p = true ↔ (p.length : Int) = 12 ∧ isD p = true := by rw [rr_of1 fo4.1 fo4.2.1, fo4.2.2]
theorem rr11 {p : List UInt8} : rr 11 p = true ↔ (p.length : Int) = 6 ∧ isD p = true := by rw [rr_of1 fo11.1 fo11.2.1, fo11.2.2]
theorem rr90 {p : List UInt8} : rr 90 p = true ↔ (p.length : Int) = 42 ∧ isD p = true := by rw [rr_of1 fo90.1 fo90.2.1, fo90.2.2]
theorem fine_isD {p : List UInt8} (h : lFine p = true) : isD p = true := by unfold lFine at h; simp at h; exact h.1
theorem isD_len {p : List UInt8} (h : isD p = true) : 1 ≤ p.length := by
  have := (isD_iff.1 h).1
  cases p with
  | nil => exact absurd rfl this
  | cons a l => simp
/-- A number within its digits. -/
theorem pu_in {v : Int} {k : Nat} (hk : 1 ≤ k ∧ k ≤ 19) (h0 : 0 ≤ v) (h : v.toNat < 10 ^ k) : puE v k = 0 ∧ puS v k = decs k v.toNat := by
  have := pu3 (v := v) (n := (k : Int)) (by omega) (by simpa using h)
  simpa [and_comm] using this
theorem get_isD {L : List UInt8} (h : isD L = true) (hl : L.length ≤ 19) : gErr L = 0 ∧ gVal L = dVal L ∧ dVal L < 10 ^ L.length := by
  have hd := (isD_iff.1 h).2
  have h1 := isD_len h
  have hlt := dVal_lt L hd
  have e := decs_dVal L hd
  have := get_decs (k := L.length) (V := dVal L) ⟨h1, hl⟩ hlt
  rw [e] at this
  exact ⟨this.1, this.2, hlt⟩
theorem frst_rr {x : List UInt8} (hx : isD x = true) (hl : x.length = 6) : rr 90 (frst x) = true := by
  rw [rr90]
  refine ⟨by simp [frst, hl], isD_iff.2 ⟨by simp [frst], fun b hb => ?_⟩⟩
  unfold frst at hb
  rw [List.mem_append, List.mem_append, List.mem_replicate] at hb
  rcases hb with hb | hb | ⟨_, rfl⟩
  · simp at hb
    rcases hb with rfl | rfl | rfl <;> decide
  · exact (isD_iff.1 hx).2 b hb
  · decide
theorem dR_iff {k a s : Int} {p r c : List UInt8} : dR k a s p r c = true ↔ (1 ≤ k ∧ k ≤ 7) ∧ s ≤ 999999 ∧ rr 37 r = true ∧ (dAsks k = true → lFine p = true ∧ (p.length : Int) ≤ 19 ∧ a < 1000000000000 ∧ c = []) ∧ (dAsks k = false → rr 39 c = true ∧ p = [] ∧ a = 0) := by
  unfold dR
  cases e : dAsks k <;> simp
theorem tyOf_T {k : Int} (h : 1 ≤ k ∧ k ≤ 7) : mT (tyOf k) = true ∧ kdOf (tyOf k) = k := by
  rcases (show k = 1 ∨ k = 2 ∨ k = 3 ∨ k = 4 ∨ k = 5 ∨ k = 6 ∨ k = 7 by omega) with rfl | rfl | rfl | rfl | rfl | rfl | rfl <;> decide
theorem kdOf_T {T : List UInt8} (h : mT T = true) : (1 ≤ kdOf T ∧ kdOf T ≤ 7) ∧ tyOf (kdOf T) = T := by
  unfold mT at h
  simp only [List.contains_eq_mem, List.mem_cons, List.not_mem_nil, or_false, decide_eq_true_eq] at h
  rcases h with rfl | rfl | rfl | rfl | rfl | rfl | rfl <;> decide
theorem asks_tl {k : Int} (h : k = 5 ∨ k = 6) : dAsks k = true := by rcases h with rfl | rfl <;> decide
def dKa (k : Int) : Prop := k = 5 ∨ k = 6
/-- What a deal that is right says. -/
theorem dR_parts {k a s : Int} {p r c : List UInt8} (h : dR k a s p r c = true) (ha : 0 ≤ a) (hs : 0 ≤ s) :
    puS s 6 = decs 6 s.toNat ∧ rr 11 (puS s 6) = true ∧ (gVal (puS s 6) : Int) = s ∧ puE s 6 = 0 ∧ rr 90 (frst (puS s 6)) = true ∧
    (dAsks k = true → puS a 12 = decs 12 a.toNat ∧ rr 4 (puS a 12) = true ∧ (gVal (puS a 12) : Int) = a ∧ puE a 12 = 0 ∧ rr 2 p = true) := by
  obtain ⟨hk, h1, h2, h3, h4⟩ := dR_iff.1 h
  have hs6 : s.toNat < 10 ^ 6 := by omega
  have q := pu_in (k := 6) (by omega) hs hs6
  have g := get_decs (k := 6) (V := s.toNat) (by omega) hs6
  have hd : isD (decs 6 s.toNat) = true := decs_is (by omega)
  have hl := decs_len 6 s.toNat
  have e6 : puS s 6 = decs 6 s.toNat := q.2
  refine ⟨e6, ?_, ?_, q.1, ?_, fun hk2 => ?_⟩
  · rw [e6, rr11, hl]; exact ⟨rfl, hd⟩
  · rw [e6, g.2]; omega
  · rw [e6]; exact frst_rr hd hl
  · obtain ⟨f1, f2, f3, f4⟩ := h3 hk2
    have ha12 : a.toNat < 10 ^ 12 := by omega
    have q := pu_in (k := 12) (by omega) ha ha12
    have g := get_decs (k := 12) (V := a.toNat) (by omega) ha12
    have hd : isD (decs 12 a.toNat) = true := decs_is (by omega)
    have hl := decs_len 12 a.toNat
    have e12 : puS a 12 = decs 12 a.toNat := q.2
    have hp := isD_len (fine_isD f1)
    exact ⟨e12, by rw [e12, rr4, hl]; exact ⟨rfl, hd⟩, by rw [e12, g.2]; omega, q.1, rr2.2 ⟨⟨by omega, f2⟩, fine_isD f1⟩⟩
theorem dIs_fs (k a s : Int) (p r c : List UInt8) : fs (dIs k a s p r c) = fOf k := by
  unfold dIs fOf
  split
  · rfl
  · split <;> rfl
theorem fOf_ups (k : Int) : ups (fOf k) := by
  unfold fOf ups
  split
  · decide
  · split <;> decide
theorem dIs_R {k a s : Int} {p r c : List UInt8} (h : dR k a s p r c = true) (ha : 0 ≤ a) (hs : 0 ≤ s) : mR (tyOf k) (dIs k a s p r c) = true := by
  obtain ⟨hk, h1, h2, h3, h4⟩ := dR_iff.1 h
  obtain ⟨q1, q2, q3, q4, q5, q6⟩ := dR_parts h ha hs
  rw [mR_iff]
  refine ⟨(tyOf_T hk).1, ?_, ?_, by rw [dIs_fs]; exact fOf_ups k⟩
  · unfold dIs
    split
    · simp
    · split <;> simp
  · intro x hx
    unfold dIs at hx
    split at hx
    · rename_i e
      have q6 := q6 (asks_tl e)
      simp only [List.mem_cons, List.not_mem_nil, or_false] at hx
      rcases hx with rfl | rfl | rfl | rfl | rfl
      · exact q6.2.2.2.2
      · exact q6.2.1
      · exact q2
      · exact h2
      · exact q5
    · split at hx
      · rename_i e
        have q6 := q6 e
        simp only [List.mem_cons, List.not_mem_nil, or_false] at hx
        rcases hx with rfl | rfl | rfl | rfl
        · exact q6.2.2.2.2
        · exact q6.2.1
        · exact q2
        · exact h2
      · rename_i e
        have h4 := h4 (by simpa using e)
        simp only [List.mem_cons, List.not_mem_nil, or_false] at hx
        rcases hx with rfl | rfl | rfl
        · exact q2
        · exact h2
        · exact h4.1
/-- Reading a deal. -/
def dE (T : List UInt8) (L : List It) : Int := if mR T L = false then 1 else if ¬fs L = fOf (kdOf T) then 3 else if dAsks (kdOf T) = false then 0 else if lFine (mG L 2) = false then 3 else if tl (kdOf T) = true ∧ ¬mG L 90 = frst (mG L 11) then 11 else 0
def xK (T : List UInt8) (L : List It) : Int := if dE T L = 0 then kdOf T else 0
def xA (T : List UInt8) (L : List It) : Int := if dE T L = 0 then (if dAsks (kdOf T) = true then (gVal (mG L 4) : Int) else 0) else 0
def xS (T : List UInt8) (L : List It) : Int := if dE T L = 0 then (gVal (mG L 11) : Int) else 0
def xP (T : List UInt8) (L : List It) : List UInt8 := if dE T L = 0 then (if dAsks (kdOf T) = true then mG L 2 else []) else []
def xR (T : List UInt8) (L : List It) : List UInt8 := if dE T L = 0 then mG L 37 else []
def xC (T : List UInt8) (L : List It) : List UInt8 := if dE T L = 0 then (if dAsks (kdOf T) = true then [] else mG L 39) else []
theorem dE_bad {T : List UInt8} {L : List It} (h : ¬dE T L = 0) : xK T L = 0 ∧ xA T L = 0 ∧ xS T L = 0 ∧ xP T L = [] ∧ xR T L = [] ∧ xC T L = [] := ⟨if_neg h, if_neg h, if_neg h, if_neg h, if_neg h, if_neg h⟩
theorem d_back {k a s : Int} {p r c : List UInt8} (h : dR k a s p r c = true) (ha : 0 ≤ a) (hs : 0 ≤ s) :
    dE (tyOf k) (dIs k a s p r c) = 0 ∧ xK (tyOf k) (dIs k a s p r c) = k ∧ xA (tyOf k) (dIs k a s p r c) = a ∧ xS (tyOf k) (dIs k a s p r c) = s ∧ xP (tyOf k) (dIs k a s p r c) = p ∧ xR (tyOf k) (dIs k a s p r c) = r ∧ xC (tyOf k) (dIs k a s p r c) = c := by
  obtain ⟨hk, h1, h2, h3, h4⟩ := dR_iff.1 h
  obtain ⟨q1, q2, q3, q4, q5, q6⟩ := dR_parts h ha hs
  have hm := dIs_R h ha hs
  have hT := tyOf_T hk
  have hE : dE (tyOf k) (dIs k a s p r c) = 0 := by
    unfold dE
    rw [hm, if_neg (by simp), hT.2, if_neg (by rw [dIs_fs]; simp)]
    by_cases e : dAsks k = true
    · rw [if_neg (by simp [e])]
      have h3 := h3 e
      have g2 : mG (dIs k a s p r c) 2 = p := by
        unfold dIs
        split
        · rfl
        · first | rfl | (rw [if_pos e]; rfl)
      rw [g2, if_neg (by rw [h3.1]; simp)]
      by_cases t : k = 5 ∨ k = 6
      · rw [if_neg]
        rintro ⟨_, hn⟩
        apply hn
        unfold dIs
        rw [if_pos t]
        rfl
      · rw [if_neg]
        rintro ⟨hn, _⟩
        exact t (tl_iff.1 hn)
    · rw [if_pos (by simpa using e)]
  refine ⟨hE, ?_, ?_, ?_, ?_, ?_, ?_⟩
  · unfold xK; rw [if_pos hE]; exact hT.2
  · unfold xA; rw [if_pos hE, hT.2]
    by_cases e : dAsks k = true
    · rw [if_pos e]
      have : mG (dIs k a s p r c) 4 = puS a 12 := by
        unfold dIs
        split
        · rfl
        · first | rfl | (rw [if_pos e]; rfl)
      rw [this]
      exact (q6 e).2.2.1
    · rw [if_neg e]
      exact (h4 (by simpa using e)).2.2.symm
  · unfold xS; rw [if_pos hE]
    have : mG (dIs k a s p r c) 11 = puS s 6 := by
      unfold dIs
      split
      · rfl
      · split <;> rfl
    rw [this]
    exact q3
  · unfold xP; rw [if_pos hE, hT.2]
    by_cases e : dAsks k = true
    · rw [if_pos e]
      unfold dIs
      split
      · rfl
      · first | rfl | (rw [if_pos e]; rfl)
    · rw [if_neg e]
      exact (h4 (by simpa using e)).2.1.symm
  · unfold xR; rw [if_pos hE]
    unfold dIs
    split
    · rfl
    · split <;> rfl
  · unfold xC; rw [if_pos hE, hT.2]
    by_cases e : dAsks k = true
    · rw [if_pos e]
      exact (h3 e).2.2.2.symm
    · rw [if_neg e]
      unfold dIs
      rw [if_neg (fun t => e (asks_tl t)), if_neg e]
      rfl
theorem fl3_of {L : List It} {a b c : Int} (h : fs L = [a, b, c]) : ∃ x y z, L = [(a, x), (b, y), (c, z)] := by
  match L, h with
  | [(a', x), (b', y), (c', z)], h => simp [fs] at h; obtain ⟨rfl, rfl, rfl⟩ := h; exact ⟨x, y, z, rfl⟩
theorem fl4_of {L : List It} {a b c d : Int} (h : fs L = [a, b, c, d]) : ∃ x y z u, L = [(a, x), (b, y), (c, z), (d, u)] := by
  match L, h with
  | [(a', x), (b', y), (c', z), (d', u)], h => simp [fs] at h; obtain ⟨rfl, rfl, rfl, rfl⟩ := h; exact ⟨x, y, z, u, rfl⟩
theorem fl5_of {L : List It} {a b c d e : Int} (h : fs L = [a, b, c, d, e]) : ∃ x y z u v, L = [(a, x), (b, y), (c, z), (d, u), (e, v)] := by
  match L, h with
  | [(a', x), (b', y), (c', z), (d', u), (e', v)], h => simp [fs] at h; obtain ⟨rfl, rfl, rfl, rfl, rfl⟩ := h; exact ⟨x, y, z, u, v, rfl⟩
/-- A field of digits, read and written. -/
theorem num_back {n : Int} {k : Nat} {x : List UInt8} (hk : 1 ≤ k ∧ k ≤ 18) (hl : (x.length : Int) = k) (hd : isD x = true) : puS (gVal x : Int) k = x ∧ gVal x < 10 ^ k := by
  have hl : x.length = k := by omega
  have g := get_isD hd (by omega)
  have := (get_put g.1).2
  rw [hl] at this
  refine ⟨this, ?_⟩
  rw [g.2.1, ← hl]
  exact g.2.2
theorem d_good {T : List UInt8} {L : List It} (h : dE T L = 0) : dR (xK T L) (xA T L) (xS T L) (xP T L) (xR T L) (xC T L) = true ∧ tyOf (xK T L) = T ∧ dIs (xK T L) (xA T L) (xS T L) (xP T L) (xR T L) (xC T L) = L ∧ 0 ≤ xA T L ∧ 0 ≤ xS T L := by
  have hm : mR T L = true := by
    unfold dE at h
    cases e : mR T L
    · rw [if_pos e] at h; cases h
    · rfl
  have hmi := mR_iff.1 hm
  have hT := kdOf_T hmi.1
  have hf : fs L = fOf (kdOf T) := by
    unfold dE at h
    rw [if_neg (by simp [hm])] at h
    by_cases e : fs L = fOf (kdOf T)
    · exact e
    · rw [if_pos e] at h; cases h
  have hE := h
  unfold dE at h
  rw [if_neg (by simp [hm]), if_neg (by simp [hf])] at h
  have hK : xK T L = kdOf T := if_pos hE
  have hA : xA T L = if dAsks (kdOf T) = true then (gVal (mG L 4) : Int) else 0 := if_pos hE
  have hS : xS T L = (gVal (mG L 11) : Int) := if_pos hE
  have hP : xP T L = if dAsks (kdOf T) = true then mG L 2 else [] := if_pos hE
  have hR : xR T L = mG L 37 := if_pos hE
  have hC : xC T L = if dAsks (kdOf T) = true then [] else mG L 39 := if_pos hE
  rw [hK, hA, hS, hP, hR, hC]
  generalize kdOf T = k at *
  have hr := hmi.2.2.1
  rw [dR_iff]
  by_cases t : k = 5 ∨ k = 6
  · have e := asks_tl t
    rw [fOf, if_pos t] at hf
    obtain ⟨x1, x2, x3, x4, x5, rfl⟩ := fl5_of hf
    have r1 : rr 2 x1 = true := hr _ (show ((2 : Int), x1) ∈ _ by simp)
    have r2 : rr 4 x2 = true := hr _ (show ((4 : Int), x2) ∈ _ by simp)
    have r3 : rr 11 x3 = true := hr _ (show ((11 : Int), x3) ∈ _ by simp)
    have r4 : rr 37 x4 = true := hr _ (show ((37 : Int), x4) ∈ _ by simp)
    have n2 : puS (gVal x2 : Int) 12 = x2 ∧ gVal x2 < 10 ^ 12 := num_back (n := 0) (k := 12) (by omega) (rr4.1 r2).1 (rr4.1 r2).2
    have n3 : puS (gVal x3 : Int) 6 = x3 ∧ gVal x3 < 10 ^ 6 := num_back (n := 0) (k := 6) (by omega) (rr11.1 r3).1 (rr11.1 r3).2
    have m1 : mG [((2 : Int), x1), (4, x2), (11, x3), (37, x4), (90, x5)] 2 = x1 := rfl
    have m2 : mG [((2 : Int), x1), (4, x2), (11, x3), (37, x4), (90, x5)] 4 = x2 := rfl
    have m3 : mG [((2 : Int), x1), (4, x2), (11, x3), (37, x4), (90, x5)] 11 = x3 := rfl
    have m4 : mG [((2 : Int), x1), (4, x2), (11, x3), (37, x4), (90, x5)] 37 = x4 := rfl
    have m5 : mG [((2 : Int), x1), (4, x2), (11, x3), (37, x4), (90, x5)] 90 = x5 := rfl
    rw [m1, m3, m5, if_neg (by simp [e])] at h
    have hfine : lFine x1 = true := by
      cases q : lFine x1
      · rw [if_pos q] at h; cases h
      · rfl
    rw [if_neg (by simp [hfine])] at h
    have h90 : x5 = frst x3 := by
      by_cases q : x5 = frst x3
      · exact q
      · rw [if_pos ⟨tl_iff.2 t, q⟩] at h; cases h
    rw [if_pos e, if_pos e, if_pos e, m1, m2, m3, m4]
    have b3 := n3.2
    have b2 := n2.2
    refine ⟨⟨hT.1, by omega, r4, fun _ => ⟨hfine, (rr2.1 r1).1.2, by omega, rfl⟩, fun q => by rw [e] at q; cases q⟩, hT.2, ?_, by omega, by omega⟩
    unfold dIs
    rw [if_pos t, n2.1, n3.1, h90]
  · by_cases e : dAsks k = true
    · rw [fOf, if_neg t, if_pos e] at hf
      obtain ⟨x1, x2, x3, x4, rfl⟩ := fl4_of hf
      have r1 : rr 2 x1 = true := hr _ (show ((2 : Int), x1) ∈ _ by simp)
      have r2 : rr 4 x2 = true := hr _ (show ((4 : Int), x2) ∈ _ by simp)
      have r3 : rr 11 x3 = true := hr _ (show ((11 : Int), x3) ∈ _ by simp)
      have r4 : rr 37 x4 = true := hr _ (show ((37 : Int), x4) ∈ _ by simp)
      have n2 : puS (gVal x2 : Int) 12 = x2 ∧ gVal x2 < 10 ^ 12 := num_back (n := 0) (k := 12) (by omega) (rr4.1 r2).1 (rr4.1 r2).2
      have n3 : puS (gVal x3 : Int) 6 = x3 ∧ gVal x3 < 10 ^ 6 := num_back (n := 0) (k := 6) (by omega) (rr11.1 r3).1 (rr11.1 r3).2
      have m1 : mG [((2 : Int), x1), (4, x2), (11, x3), (37, x4)] 2 = x1 := rfl
      have m2 : mG [((2 : Int), x1), (4, x2), (11, x3), (37, x4)] 4 = x2 := rfl
      have m3 : mG [((2 : Int), x1), (4, x2), (11, x3), (37, x4)] 11 = x3 := rfl
      have m4 : mG [((2 : Int), x1), (4, x2), (11, x3), (37, x4)] 37 = x4 := rfl
      rw [m1, if_neg (by simp [e])] at h
      have hfine : lFine x1 = true := by
        cases q : lFine x1
        · rw [if_pos q] at h; cases h
        · rfl
      rw [if_pos e, if_pos e, if_pos e, m1, m2, m3, m4]
      have b3 := n3.2
      have b2 := n2.2
      refine ⟨⟨hT.1, by omega, r4, fun _ => ⟨hfine, (rr2.1 r1).1.2, by omega, rfl⟩, fun q => by rw [e] at q; cases q⟩, hT.2, ?_, by omega, by omega⟩
      unfold dIs
      rw [if_neg t, if_pos e, n2.1, n3.1]
    · rw [fOf, if_neg t, if_neg e] at hf
      obtain ⟨x3, x4, x5, rfl⟩ := fl3_of hf
      have r3 : rr 11 x3 = true := hr _ (show ((11 : Int), x3) ∈ _ by simp)
      have r4 : rr 37 x4 = true := hr _ (show ((37 : Int), x4) ∈ _ by simp)
      have r5 : rr 39 x5 = true := hr _ (show ((39 : Int), x5) ∈ _ by simp)
      have n3 : puS (gVal x3 : Int) 6 = x3 ∧ gVal x3 < 10 ^ 6 := num_back (n := 0) (k := 6) (by omega) (rr11.1 r3).1 (rr11.1 r3).2
      have m3 : mG [((11 : Int), x3), (37, x4), (39, x5)] 11 = x3 := rfl
      have m4 : mG [((11 : Int), x3), (37, x4), (39, x5)] 37 = x4 := rfl
      have m5 : mG [((11 : Int), x3), (37, x4), (39, x5)] 39 = x5 := rfl
      rw [if_neg e, if_neg e, if_neg e, m3, m4, m5]
      have b3 := n3.2
      refine ⟨⟨hT.1, by omega, r4, fun q => absurd q e, fun _ => ⟨r5, rfl, rfl⟩⟩, hT.2, ?_, by omega, by omega⟩
      unfold dIs
      rw [if_neg t, if_neg e, n3.1]
end Go.Vd

namespace Go.Vd
theorem or_two (x y : Nat) (hx : x < 256) (hy : y < 256) : bits .or .i64 ((x : Int) * 256) (y : Int) = ((256 * x + y : Nat) : Int) := by
  show IntKind.i64.wrap ((BitVec.ofInt 64 ((x : Int) * 256) ||| BitVec.ofInt 64 (y : Int)).toNat : Int) = _
  have h1 : (BitVec.ofInt 64 ((x : Int) * 256)).toNat = x * 256 := by rw [BitVec.toNat_ofInt]; omega
  have h2 : (BitVec.ofInt 64 (y : Int)).toNat = y := by rw [BitVec.toNat_ofInt]; omega
  have h3 : x * 256 ||| y = 256 * x + y := by
    have h := Nat.shiftLeft_add_eq_or_of_lt (i := 8) (b := y) (by omega) x
    rw [Nat.shiftLeft_eq, show (2 : Nat) ^ 8 = 256 from rfl] at h
    omega
  rw [BitVec.toNat_or, h1, h2, h3]
  exact w64 (by omega)
end Go.Vd

set_option linter.unusedVariables false
namespace Go.Vd
/-- The length that two bytes say. -/
def fLen (L : List UInt8) : Nat := 256 * (L.getD 0 0).toNat + (L.getD 1 0).toNat
theorem fLen_lt (L : List UInt8) : fLen L < 65536 := by
  have h1 := (L.getD 0 0).toNat_lt
  have h2 := (L.getD 1 0).toNat_lt
  unfold fLen
  omega
def fMay (n : Int) : Bool := decide (1 ≤ n) && decide (n ≤ 2048)
def fOk (L : List UInt8) (br : Bool) : Bool := if br then decide (L.length = 0) else if L.length < 2 then true else fMay (fLen L) && decide (L.length < 2 + fLen L)
theorem fMay_iff {n : Nat} : fMay n = true ↔ 1 ≤ n ∧ n ≤ 2048 := by simp [fMay]; omega
theorem getD_app {L M : List UInt8} {i : Nat} (h : i < L.length) : (L ++ M).getD i 0 = L.getD i 0 := by
  rw [List.getD_eq_getElem?_getD, List.getD_eq_getElem?_getD, List.getElem?_append_left h]
theorem fLen_app {L M : List UInt8} (h : 2 ≤ L.length) : fLen (L ++ M) = fLen L := by
  unfold fLen
  rw [getD_app (by omega), getD_app (by omega)]

/-- What bytes are: frames, what is left, and whether a length may not be. -/
def fParse (L : List UInt8) : List (List UInt8) × List UInt8 × Bool :=
  if L.length < 2 then ([], L, false)
  else if fMay (fLen L) = false then ([], [], true)
  else if L.length < 2 + fLen L then ([], L, false)
  else
    let r := fParse (L.drop (2 + fLen L))
    ((L.drop 2).take (fLen L) :: r.1, r.2)
termination_by L.length
decreasing_by rw [List.length_drop]; omega
theorem fParse_short {L : List UInt8} (h : L.length < 2) : fParse L = ([], L, false) := by
  rw [fParse, if_pos h]
theorem fParse_bad {L : List UInt8} (h : ¬L.length < 2) (h1 : fMay (fLen L) = false) : fParse L = ([], [], true) := by
  rw [fParse, if_neg h, if_pos h1]
theorem fParse_part {L : List UInt8} (h : ¬L.length < 2) (h1 : fMay (fLen L) = true) (h2 : L.length < 2 + fLen L) : fParse L = ([], L, false) := by
  rw [fParse, if_neg h, if_neg (by simp [h1]), if_pos h2]
theorem fParse_more {L : List UInt8} (h : ¬L.length < 2) (h1 : fMay (fLen L) = true) (h2 : ¬L.length < 2 + fLen L) : fParse L = ((L.drop 2).take (fLen L) :: (fParse (L.drop (2 + fLen L))).1, (fParse (L.drop (2 + fLen L))).2) := by
  rw [fParse, if_neg h, if_neg (by simp [h1]), if_neg h2]
theorem fParse_fix {R : List UInt8} (h : fOk R false = true) : fParse R = ([], R, false) := by
  by_cases h0 : R.length < 2
  · exact fParse_short h0
  · simp [fOk, h0] at h
    exact fParse_part h0 h.1 (by omega)
theorem fParse_ok (n : Nat) : ∀ L : List UInt8, L.length = n → fOk (fParse L).2.1 (fParse L).2.2 = true ∧ (fParse L).2.1.length ≤ L.length := by
  induction n using Nat.strongRecOn with
  | _ n ih =>
    intro L hL
    by_cases h0 : L.length < 2
    · rw [fParse_short h0]; simp [fOk, h0]
    · cases h1 : fMay (fLen L) with
      | false => rw [fParse_bad h0 h1]; simp [fOk]
      | true =>
        by_cases h2 : L.length < 2 + fLen L
        · rw [fParse_part h0 h1 h2]; simp [fOk, h0, h1]; omega
        · rw [fParse_more h0 h1 h2]
          have h := ih (L.drop (2 + fLen L)).length (by rw [List.length_drop]; omega) _ rfl
          refine ⟨h.1, Nat.le_trans h.2 (by rw [List.length_drop]; omega)⟩
theorem fParse_right (L : List UInt8) : fOk (fParse L).2.1 (fParse L).2.2 = true := (fParse_ok _ L rfl).1
theorem fParse_app (n : Nat) : ∀ L M : List UInt8, L.length = n → fParse (L ++ M) = if (fParse L).2.2 then ((fParse L).1, [], true) else ((fParse L).1 ++ (fParse ((fParse L).2.1 ++ M)).1, (fParse ((fParse L).2.1 ++ M)).2) := by
  induction n using Nat.strongRecOn with
  | _ n ih =>
    intro L M hL
    by_cases h0 : L.length < 2
    · rw [fParse_short h0]; simp
    · have hl : ¬(L ++ M).length < 2 := by rw [List.length_append]; omega
      have hf : fLen (L ++ M) = fLen L := fLen_app (by omega)
      cases h1 : fMay (fLen L) with
      | false => rw [fParse_bad h0 h1, fParse_bad hl (by rw [hf]; exact h1)]; simp
      | true =>
        by_cases h2 : L.length < 2 + fLen L
        · rw [fParse_part h0 h1 h2]; simp
        · rw [fParse_more hl (by rw [hf]; exact h1) (by rw [hf, List.length_append]; omega), hf, List.drop_append_of_le_length (by omega), List.drop_append_of_le_length (by omega), List.take_append_of_le_length (by rw [List.length_drop]; omega)]
          rw [ih (L.drop (2 + fLen L)).length (by rw [List.length_drop]; omega) _ M rfl]
          rw [fParse_more h0 h1 h2]
          cases h3 : (fParse (L.drop (2 + fLen L))).2.2 <;> simp [h3]
theorem fParse_append (L M : List UInt8) : fParse (L ++ M) = if (fParse L).2.2 then ((fParse L).1, [], true) else ((fParse L).1 ++ (fParse ((fParse L).2.1 ++ M)).1, (fParse ((fParse L).2.1 ++ M)).2) := fParse_app _ L M rfl
/-- A byte more. -/
theorem fStep_short {R : List UInt8} {x : UInt8} (h2 : (R ++ [x]).length < 2) : fOk (R ++ [x]) false = true := by
  unfold fOk
  simp only [Bool.false_eq_true, if_false]
  rw [if_pos h2]
theorem fStep_bad {R T : List UInt8} {x : UInt8} (h2 : ¬(R ++ [x]).length < 2) (h1 : fMay (fLen (R ++ [x])) = false) : fParse (R ++ x :: T) = ([], [], true) := by
  have e : R ++ x :: T = (R ++ [x]) ++ T := by simp
  rw [e]
  exact fParse_bad (by rw [List.length_append]; omega) (by rw [fLen_app (by omega)]; exact h1)
theorem fParse_full {S T : List UInt8} (h2 : ¬S.length < 2) (h1 : fMay (fLen S) = true) (h3 : S.length = 2 + fLen S) : fParse (S ++ T) = (S.drop 2 :: (fParse T).1, (fParse T).2) := by
  have hf : fLen (S ++ T) = fLen S := fLen_app (by omega)
  have e1 : (S ++ T).drop (2 + fLen S) = T := by rw [← h3, List.drop_left]
  rw [fParse_more (by rw [List.length_append]; omega) (by rw [hf]; exact h1) (by rw [hf, List.length_append]; omega), hf, e1, List.drop_append_of_le_length (by omega), List.take_append_of_le_length (by rw [List.length_drop]; omega), List.take_of_length_le (by rw [List.length_drop]; omega)]
theorem fStep_full {R T : List UInt8} {x : UInt8} (h2 : ¬(R ++ [x]).length < 2) (h1 : fMay (fLen (R ++ [x])) = true) (h3 : (R ++ [x]).length = 2 + fLen (R ++ [x])) : fParse (R ++ x :: T) = ((R ++ [x]).drop 2 :: (fParse T).1, (fParse T).2) := by
  have e : R ++ x :: T = (R ++ [x]) ++ T := by simp
  rw [e]
  exact fParse_full h2 h1 h3
theorem fStep_part {R : List UInt8} {x : UInt8} (h : fOk R false = true) (h2 : ¬(R ++ [x]).length < 2) (h1 : fMay (fLen (R ++ [x])) = true) (h3 : ¬(R ++ [x]).length = 2 + fLen (R ++ [x])) : fOk (R ++ [x]) false = true := by
  unfold fOk
  simp only [Bool.false_eq_true, if_false]
  rw [if_neg h2, h1, Bool.true_and, decide_eq_true_iff]
  have hl : (R ++ [x]).length = R.length + 1 := by simp
  have hm := fMay_iff.1 h1
  by_cases h0 : R.length < 2
  · omega
  · have hf : fLen (R ++ [x]) = fLen R := fLen_app (by omega)
    simp [fOk, h0] at h
    omega
/-- A whole frame ahead. -/
def fPutL (L : List UInt8) : List UInt8 := [UInt8.ofNat (L.length / 256), UInt8.ofNat L.length] ++ L
theorem fPutL_len (L : List UInt8) : (fPutL L).length = L.length + 2 := by simp [fPutL]
theorem fLen_put {L : List UInt8} (T : List UInt8) (h : L.length < 65536) : fLen (fPutL L ++ T) = L.length := by
  have h1 : (UInt8.ofNat (L.length / 256)).toNat = L.length / 256 := by rw [UInt8.toNat_ofNat']; omega
  have h2 : (UInt8.ofNat L.length).toNat = L.length % 256 := by rw [UInt8.toNat_ofNat']
  show 256 * (UInt8.ofNat (L.length / 256)).toNat + (UInt8.ofNat L.length).toNat = _
  rw [h1, h2]
  omega
theorem fParse_put {L : List UInt8} (T : List UInt8) (h1 : 1 ≤ L.length) (h2 : L.length ≤ 2048) : fParse (fPutL L ++ T) = (L :: (fParse T).1, (fParse T).2) := by
  have hf := fLen_put T (L := L) (by omega)
  have hl : (fPutL L ++ T).length = L.length + 2 + T.length := by rw [List.length_append, fPutL_len]
  rw [fParse_more (by omega) (by rw [hf]; exact fMay_iff.2 ⟨h1, h2⟩) (by omega), hf]
  have e1 : (fPutL L ++ T).drop 2 = L ++ T := rfl
  have e2 : (fPutL L ++ T).drop (2 + L.length) = T := by rw [← List.drop_drop, e1]; simp
  rw [e1, e2, List.take_append_of_le_length (Nat.le_refl _), List.take_length]
theorem fParse_puts {l : List (List UInt8)} (h : ∀ b ∈ l, 1 ≤ b.length ∧ b.length ≤ 2048) : fParse (l.map fPutL).flatten = (l, [], false) := by
  induction l with
  | nil => exact fParse_short (by simp)
  | cons b l ih =>
    have hb := h b (by simp)
    rw [List.map_cons, List.flatten_cons, fParse_put _ hb.1 hb.2, ih fun c hc => h c (by simp [hc])]
/-- What comes of a reader by bytes. -/
structure FFed where
  rest : List UInt8
  br : Bool
  told : List (List UInt8)
  e : Int
def fFeed (R : List UInt8) (br : Bool) (B : List UInt8) : FFed :=
  if fOk R br = false then ⟨R, br, [], 1⟩ else if br then ⟨[], true, [], 12⟩
  else ⟨(fParse (R ++ B)).2.1, (fParse (R ++ B)).2.2, (fParse (R ++ B)).1, if (fParse (R ++ B)).2.2 then 12 else 0⟩
theorem fFeed_bad {R B : List UInt8} {br : Bool} (h : fOk R br = false) : fFeed R br B = ⟨R, br, [], 1⟩ := if_pos h
theorem fFeed_br {R B : List UInt8} (h : fOk R true = true) : fFeed R true B = ⟨[], true, [], 12⟩ := by simp [fFeed, h]
theorem fFeed_go {R B : List UInt8} (h : fOk R false = true) : fFeed R false B = ⟨(fParse (R ++ B)).2.1, (fParse (R ++ B)).2.2, (fParse (R ++ B)).1, if (fParse (R ++ B)).2.2 then 12 else 0⟩ := by simp [fFeed, h]
theorem fOk_br {R : List UInt8} (h : fOk R true = true) : R = [] := by simpa [fOk] using h
theorem fFeed_right {R B : List UInt8} {br : Bool} (h : fOk R br = true) : fOk (fFeed R br B).rest (fFeed R br B).br = true := by
  cases br
  · rw [fFeed_go h]; exact fParse_right _
  · rw [fFeed_br h]; rfl
/-- In two parts. -/
theorem fFeed_two {R A B : List UInt8} {br : Bool} (h : fOk R br = true) : fFeed R br (A ++ B) = { fFeed (fFeed R br A).rest (fFeed R br A).br B with told := (fFeed R br A).told ++ (fFeed (fFeed R br A).rest (fFeed R br A).br B).told } := by
  cases br
  · rw [fFeed_go h, fFeed_go h]
    simp only
    have hr := fParse_right (R ++ A)
    rw [← List.append_assoc, fParse_append (R ++ A) B]
    cases hb : (fParse (R ++ A)).2.2
    · rw [hb] at hr
      rw [fFeed_go hr]
      simp
    · rw [hb] at hr
      rw [fFeed_br hr]
      simp
  · rw [fFeed_br h, fFeed_br h]
    rfl
theorem fFeed_e {R B : List UInt8} {br : Bool} (h : fOk R br = true) : (fFeed R br B).e = if (fFeed R br B).br then 12 else 0 := by
  cases br
  · rw [fFeed_go h]
  · rw [fFeed_br h]; rfl
end Go.Vd

set_option linter.unusedVariables false
set_option linter.unusedSimpArgs false
set_option maxRecDepth 100000
set_option maxHeartbeats 1000000
namespace Go.Vd
open Go.Proofs
def sR (A : Ar) (L : Unit → List UInt8) (br : Bool) : SV := .agg [rowS eB 0 1 A L, .bool br]
theorem wU8 (z : Int) (h : 0 ≤ z) : IntKind.u8.wrap z = ((UInt8.ofNat z.toNat).toNat : Int) := by
  rw [IntKind.wrap_u8, UInt8.toNat_ofNat']
  omega
theorem wB (x : UInt8) : IntKind.i64.wrap (x.toNat : Int) = x.toNat := w64 (by have := x.toNat_lt; omega)
theorem flen_bits (x y : UInt8) : bits .or .i64 (IntKind.i64.wrap (IntKind.i64.wrap (x.toNat : Int) * 2 ^ min 8 IntKind.i64.bits)) (IntKind.i64.wrap (y.toNat : Int)) = ((256 * x.toNat + y.toNat : Nat) : Int) := by
  have hx := x.toNat_lt
  have hy := y.toNat_lt
  rw [wB, wB, show (2 : Int) ^ min 8 IntKind.i64.bits = 256 from rfl, w64 (n := (x.toNat : Int) * 256) (by omega)]
  exact or_two _ _ hx hy
theorem flen_sum (x y : UInt8) : IntKind.i64.wrap (IntKind.i64.wrap (256 * IntKind.i64.wrap (x.toNat : Int)) + IntKind.i64.wrap (y.toNat : Int)) = ((256 * x.toNat + y.toNat : Nat) : Int) := by
  have hx := x.toNat_lt
  have hy := y.toNat_lt
  rw [wB, wB, w64 (n := 256 * (x.toNat : Int)) (by omega), w64 (by omega)]
  omega
theorem good_may (n : Int) : GoodP Tryz.prog gl0 51 [.int .i64 n] (.bool (std.tb fun _ => fMay n)) := by
  refine fn_sound' (T := seatT) (G := noC) (X := noX) seatT_ok noC_ok noX_ok noI_ok mixed Tryz.func51 (.one) (fun A => [.int .i64 n]) (fun A => .bool (A.tb fun _ => fMay n)) fun A hA => ?_
  cbv
  repeat' (first | with_reducible exact True.intro | with_reducible exact dr_ok hA (by kernel_rfl) | with_reducible refine And.intro ?_ ?_ | (intro hc; cbv))
  all_goals (subst hA; simp [-List.getD_eq_getElem?_getD, std_add, std_sub, std_mul, std_quo, std_rem, std_band, std_bor, std_bxor, std_shl, std_shr, std_eq, std_ne, std_lt, std_le, std_conv, std_not, std_beq, std_bne, std_ite, std_want, std_and2, std_sadd, std_seq, std_sne, std_slt, std_sle, std_sgt, std_sge, std_slen, std_sget, std_scut, std_ofNat, std_toNat, std_nsub, std_nadd, std_lenOf, std_nz, std_nneg, std_inb, std_upto, std_slt63, std_grow, std_imp, std_impN, std_tr, std_tb, std_ti, std_ts, std_tn, std_tp, std_nmin, std_makes, std_room, std_zeros, std_nilq, std_notq, std_eqi, std_eqn, std_eqb, std_eqs, std_eqv, std_cat, std_lst, std_rset, std_rcopy, std_shift, std_eqr, std_strOf, std_bytesOf, std_isB, std_zOf, zOf_int, std_isI, isI_int, std_getL, std_nmul, std_sOf, sOf_str, std_isS, isS_str]; try simp [fMay])
theorem good_rmay (n : Int) : GoodP Tryz.prog gl0 102 [.int .i64 n] (.bool (std.tb fun _ => fMay n)) := by
  refine fn_sound' (T := seatT) (G := noC) (X := noX) seatT_ok noC_ok noX_ok noI_ok mixed Tryz.func102 (.one) (fun A => [.int .i64 n]) (fun A => .bool (A.tb fun _ => fMay n)) fun A hA => ?_
  cbv
  repeat' (first | with_reducible exact True.intro | with_reducible exact dr_ok hA (by kernel_rfl) | with_reducible refine And.intro ?_ ?_ | (intro hc; cbv))
  all_goals (subst hA; simp [-List.getD_eq_getElem?_getD, std_add, std_sub, std_mul, std_quo, std_rem, std_band, std_bor, std_bxor, std_shl, std_shr, std_eq, std_ne, std_lt, std_le, std_conv, std_not, std_beq, std_bne, std_ite, std_want, std_and2, std_sadd, std_seq, std_sne, std_slt, std_sle, std_sgt, std_sge, std_slen, std_sget, std_scut, std_ofNat, std_toNat, std_nsub, std_nadd, std_lenOf, std_nz, std_nneg, std_inb, std_upto, std_slt63, std_grow, std_imp, std_impN, std_tr, std_tb, std_ti, std_ts, std_tn, std_tp, std_nmin, std_makes, std_room, std_zeros, std_nilq, std_notq, std_eqi, std_eqn, std_eqb, std_eqs, std_eqv, std_cat, std_lst, std_rset, std_rcopy, std_shift, std_eqr, std_strOf, std_bytesOf, std_isB, std_zOf, zOf_int, std_isI, isI_int, std_getL, std_nmul, std_sOf, sOf_str, std_isS, isS_str]; try simp [fMay])
  all_goals (rw [Bool.eq_iff_iff]; simp; omega)
theorem good_flen (L : List UInt8) (h2 : 2 ≤ L.length) : GoodP Tryz.prog gl0 50 [rowS eB 0 1 std fun _ => L] (.int .i64 (std.ti fun _ => (fLen L : Int))) := by
  refine fn_sound' (T := seatT) (G := noC) (X := noX) seatT_ok noC_ok noX_ok noI_ok mixed Tryz.func50 (.one) (fun A => [rowS eB 0 1 A fun _ => L]) (fun A => .int .i64 (A.ti fun _ => (fLen L : Int))) fun A hA => ?_
  cbv
  repeat' (first | with_reducible exact True.intro | with_reducible exact dr_ok hA (by kernel_rfl) | with_reducible refine And.intro ?_ ?_ | (intro hc; cbv))
  all_goals (subst hA; simp [-List.getD_eq_getElem?_getD, std_add, std_sub, std_mul, std_quo, std_rem, std_band, std_bor, std_bxor, std_shl, std_shr, std_eq, std_ne, std_lt, std_le, std_conv, std_not, std_beq, std_bne, std_ite, std_want, std_and2, std_sadd, std_seq, std_sne, std_slt, std_sle, std_sgt, std_sge, std_slen, std_sget, std_scut, std_ofNat, std_toNat, std_nsub, std_nadd, std_lenOf, std_nz, std_nneg, std_inb, std_upto, std_slt63, std_grow, std_imp, std_impN, std_tr, std_tb, std_ti, std_ts, std_tn, std_tp, std_nmin, std_makes, std_room, std_zeros, std_nilq, std_notq, std_eqi, std_eqn, std_eqb, std_eqs, std_eqv, std_cat, std_lst, std_rset, std_rcopy, std_shift, std_eqr, std_strOf, std_bytesOf, std_isB, std_zOf, zOf_int, std_isI, isI_int, std_getL, std_nmul, std_sOf, sOf_str, std_isS, isS_str])
  · omega
  · omega
  · exact flen_bits _ _
noncomputable def c_may : Ct := fun A args => match args with
  | [.int .i64 n] => some (none, .bool (A.tb fun _ => fMay n))
  | _ => none
noncomputable def c_rmay : Ct := fun A args => match args with
  | [.int .i64 n] => some (none, .bool (A.tb fun _ => fMay n))
  | _ => none
noncomputable def c_flen : Ct := fun A args => match args with
  | [.slc n 1 f] => some (some (A.tp fun _ => isRow eB 0 1 n f ∧ 2 ≤ n), .int .i64 (A.ti fun _ => (fLen (lstOf eB 0 1 n f) : Int)))
  | _ => none
noncomputable def gf1 : Ar → Pu := addC 51 c_may (addC 102 c_rmay (addC 50 c_flen (noC)))
theorem gf1_ok : PuOk Tryz.prog gl0 (gf1 std) := by
  refine addC_ok (addC_ok (addC_ok (noC_ok) ⟨_, Tryz.func50, rfl, by decide⟩ ?_) ⟨_, Tryz.func102, rfl, by decide⟩ ?_) ⟨_, Tryz.func51, rfl, by decide⟩ ?_
  · intro args p r h hp
    unfold c_flen at h
    split at h <;> cases h
    exact good_sv (good_flen _ (by rw [lstOf_length hp.1]; exact hp.2)) ⟨hp.1.sv, trivial⟩
  · intro args p r h hp
    unfold c_rmay at h
    split at h <;> cases h
    exact good_rmay _
  · intro args p r h hp
    unfold c_may at h
    split at h <;> cases h
    exact good_may _
theorem good_fRight (br : Bool) (L : List UInt8) : GoodP Tryz.prog gl0 15 [sR std (fun _ => L) br] (.bool (std.tb fun _ => fOk L br)) := by
  refine fn_sound' (T := seatT) (G := gf1) (X := noX) seatT_ok gf1_ok noX_ok noI_ok mixed Tryz.func15 (.one) (fun A => [sR A (fun _ => L) br]) (fun A => .bool (A.tb fun _ => fOk L br)) fun A hA => ?_
  cbv
  repeat' (first | with_reducible exact True.intro | with_reducible exact dr_ok hA (by kernel_rfl) | with_reducible refine And.intro ?_ ?_ | (intro hc; cbv))
  all_goals (subst hA; simp [-List.getD_eq_getElem?_getD, std_add, std_sub, std_mul, std_quo, std_rem, std_band, std_bor, std_bxor, std_shl, std_shr, std_eq, std_ne, std_lt, std_le, std_conv, std_not, std_beq, std_bne, std_ite, std_want, std_and2, std_sadd, std_seq, std_sne, std_slt, std_sle, std_sgt, std_sge, std_slen, std_sget, std_scut, std_ofNat, std_toNat, std_nsub, std_nadd, std_lenOf, std_nz, std_nneg, std_inb, std_upto, std_slt63, std_grow, std_imp, std_impN, std_tr, std_tb, std_ti, std_ts, std_tn, std_tp, std_nmin, std_makes, std_room, std_zeros, std_nilq, std_notq, std_eqi, std_eqn, std_eqb, std_eqs, std_eqv, std_cat, std_lst, std_rset, std_rcopy, std_shift, std_eqr, std_strOf, std_bytesOf, std_isB, std_zOf, zOf_int, std_isI, isI_int, std_getL, std_nmul, std_sOf, sOf_str, std_isS, isS_str, strOf_lit, lstOf_lit inj_eB, lstOf_lit inj_eZ, lstOf_lit inj_eBs, lstOf_lit inj_eS, isRow_lit, isB_lit, isRow_nil, lstOf_nil inj_eB, lstOf_nil inj_eZ, lstOf_nil inj_eBs, lstOf_nil inj_eS] at *)
  all_goals (have hF := fLen_lt L)
  all_goals (have hF2 : IntKind.i64.wrap (2 + (fLen L : Int)) = 2 + (fLen L : Int) := w64 (by omega))
  all_goals (have hG : IntKind.i64.wrap (IntKind.i64.wrap (256 * IntKind.i64.wrap ((L.getD 0 0).toNat : Int)) + IntKind.i64.wrap ((L.getD 1 0).toNat : Int)) = (fLen L : Int) := flen_sum _ _)
  all_goals first
    | omega
    | (simp only [fOk, hc, if_true]; rw [Bool.eq_iff_iff]; simp; done)
    | (rename_i h0; unfold fOk; rw [h0, if_neg Bool.false_ne_true, if_pos (by omega)])
    | (rename_i h0; unfold fOk; rw [h0, if_neg Bool.false_ne_true, if_neg (by omega), hF2]; (rw [Bool.eq_iff_iff]; simp; omega))
    | (rename_i h0; unfold fOk; rw [h0, if_neg Bool.false_ne_true, if_neg (by omega), hG, hF2]; (rw [Bool.eq_iff_iff]; simp; omega))
    | trace_state
theorem good_rfRight (br : Bool) (L : List UInt8) : GoodP Tryz.prog gl0 48 [sR std (fun _ => L) br] (.bool (std.tb fun _ => fOk L br)) := by
  refine fn_sound' (T := seatT) (G := gf1) (X := noX) seatT_ok gf1_ok noX_ok noI_ok mixed Tryz.func48 (.one) (fun A => [sR A (fun _ => L) br]) (fun A => .bool (A.tb fun _ => fOk L br)) fun A hA => ?_
  cbv
  repeat' (first | with_reducible exact True.intro | with_reducible exact dr_ok hA (by kernel_rfl) | with_reducible refine And.intro ?_ ?_ | (intro hc; cbv))
  all_goals (subst hA; simp [-List.getD_eq_getElem?_getD, std_add, std_sub, std_mul, std_quo, std_rem, std_band, std_bor, std_bxor, std_shl, std_shr, std_eq, std_ne, std_lt, std_le, std_conv, std_not, std_beq, std_bne, std_ite, std_want, std_and2, std_sadd, std_seq, std_sne, std_slt, std_sle, std_sgt, std_sge, std_slen, std_sget, std_scut, std_ofNat, std_toNat, std_nsub, std_nadd, std_lenOf, std_nz, std_nneg, std_inb, std_upto, std_slt63, std_grow, std_imp, std_impN, std_tr, std_tb, std_ti, std_ts, std_tn, std_tp, std_nmin, std_makes, std_room, std_zeros, std_nilq, std_notq, std_eqi, std_eqn, std_eqb, std_eqs, std_eqv, std_cat, std_lst, std_rset, std_rcopy, std_shift, std_eqr, std_strOf, std_bytesOf, std_isB, std_zOf, zOf_int, std_isI, isI_int, std_getL, std_nmul, std_sOf, sOf_str, std_isS, isS_str, strOf_lit, lstOf_lit inj_eB, lstOf_lit inj_eZ, lstOf_lit inj_eBs, lstOf_lit inj_eS, isRow_lit, isB_lit, isRow_nil, lstOf_nil inj_eB, lstOf_nil inj_eZ, lstOf_nil inj_eBs, lstOf_nil inj_eS] at *)
  all_goals (have hF := fLen_lt L)
  all_goals (have hF2 : IntKind.i64.wrap (2 + (fLen L : Int)) = 2 + (fLen L : Int) := w64 (by omega))
  all_goals (have hG : IntKind.i64.wrap (IntKind.i64.wrap (256 * IntKind.i64.wrap ((L.getD 0 0).toNat : Int)) + IntKind.i64.wrap ((L.getD 1 0).toNat : Int)) = (fLen L : Int) := flen_sum _ _)
  all_goals first
    | omega
    | (simp only [fOk, hc, if_true]; rw [Bool.eq_iff_iff]; simp; done)
    | (rename_i h0; unfold fOk; rw [h0, if_neg Bool.false_ne_true, if_pos (by omega)])
    | (rename_i h0; unfold fOk; rw [h0, if_neg Bool.false_ne_true, if_neg (by omega), hF2]; (rw [Bool.eq_iff_iff]; simp; omega))
    | (rename_i h0; unfold fOk; rw [h0, if_neg Bool.false_ne_true, if_neg (by omega), hG, hF2]; (rw [Bool.eq_iff_iff]; simp; omega))
    | trace_state
theorem good_rfPut (L : List UInt8) (hL : L.length ≤ 1000000) : GoodP Tryz.prog gl0 68 [rowS eB 0 1 std fun _ => L] (rowS eB 0 1 std fun _ => fPutL L) := by
  refine fn_sound' (T := seatT) (G := gf1) (X := noX) seatT_ok gf1_ok noX_ok noI_ok mixed Tryz.func68 (.none) (fun A => [rowS eB 0 1 A fun _ => L]) (fun A => rowS eB 0 1 A fun _ => fPutL L) fun A hA => ?_
  cbv
  repeat' (first | with_reducible exact True.intro | with_reducible exact dr_ok hA (by kernel_rfl) | with_reducible refine And.intro ?_ ?_ | (intro hc; cbv))
  all_goals (subst hA; simp [-List.getD_eq_getElem?_getD, std_add, std_sub, std_mul, std_quo, std_rem, std_band, std_bor, std_bxor, std_shl, std_shr, std_eq, std_ne, std_lt, std_le, std_conv, std_not, std_beq, std_bne, std_ite, std_want, std_and2, std_sadd, std_seq, std_sne, std_slt, std_sle, std_sgt, std_sge, std_slen, std_sget, std_scut, std_ofNat, std_toNat, std_nsub, std_nadd, std_lenOf, std_nz, std_nneg, std_inb, std_upto, std_slt63, std_grow, std_imp, std_impN, std_tr, std_tb, std_ti, std_ts, std_tn, std_tp, std_nmin, std_makes, std_room, std_zeros, std_nilq, std_notq, std_eqi, std_eqn, std_eqb, std_eqs, std_eqv, std_cat, std_lst, std_rset, std_rcopy, std_shift, std_eqr, std_strOf, std_bytesOf, std_isB, std_zOf, zOf_int, std_isI, isI_int, std_getL, std_nmul, std_sOf, sOf_str, std_isS, isS_str, strOf_lit, lstOf_lit inj_eB, lstOf_lit inj_eZ, lstOf_lit inj_eBs, lstOf_lit inj_eS, isRow_lit, isB_lit, isRow_nil, lstOf_nil inj_eB, lstOf_nil inj_eZ, lstOf_nil inj_eBs, lstOf_nil inj_eS] at *)
  all_goals (have p1 : IntKind.u8.wrap (IntKind.i64.wrap ((L.length : Int) / 256)) = ((UInt8.ofNat (L.length / 256)).toNat : Int) := by rw [w64 (by omega), wU8 _ (by omega)]; rfl)
  all_goals (have p2 : IntKind.u8.wrap ((L.length : Int).tmod 256) = ((UInt8.ofNat L.length).toNat : Int) := by rw [Int.tmod_eq_emod_of_nonneg (by omega), wU8 _ (by omega), UInt8.toNat_ofNat', UInt8.toNat_ofNat']; omega)
  all_goals first
    | omega
    | (constructor <;> omega)
    | (simp [fPutL]; omega)
    | exact eqr_of (Reps.catE (Reps.lst (l := [[_], [_]]) (L := [UInt8.ofNat (L.length / 256), UInt8.ofNat L.length]) ⟨cell_eB p1, cell_eB p2, trivial⟩) (Reps.lit L) rfl) (by simp [fPutL]; omega) rfl
    | trace_state
theorem put_row {L : List UInt8} {n m : Nat} {z0 z1 : Int} (hL : L.length ≤ 1000000) (hm : m = L.length) (hn : n = L.length + 2) (h0 : z0 = ((UInt8.ofNat (L.length / 256)).toNat : Int)) (h1 : z1 = ((UInt8.ofNat L.length).toNat : Int)) :
    eqrS n 1 (rcopyS (rsetS (rsetS (fun _ => getAt [SV.int IntKind.u8 0]) 0 0 [SV.int IntKind.u8 z0]) 1 0 [SV.int IntKind.u8 z1]) 2 m (rowF eB 0 std fun _ => L)) (rowF eB 0 std fun _ => fPutL L) := by
  subst hm hn
  have F := Reps.fill (enc := eB) (d := 0) (k := 1) (n := L.length + 2) (g := fun _ => getAt [SV.int IntKind.u8 0]) (x := 0) (cell_eB (by simp)) (fun i => rfl)
  have R := ((F.rset' (i := 0) (by omega) (UInt8.ofNat (L.length / 256)) rfl (cell_eB h0)).rset' (i := 1) (by omega) (UInt8.ofNat L.length) rfl (cell_eB h1)).rcopy (.lit L) 2 (by omega)
  refine (R.congr rfl ?_).eqr
  simp [List.replicate_succ, fPutL]
  omega
theorem min_two (n : Nat) : (((2 + (n : Int)).toNat - 2).min n) = n := by
  have h : (2 + (n : Int)).toNat - 2 = n := by omega
  rw [h]
  exact Nat.min_self _
theorem good_fPut (L : List UInt8) (hL : L.length ≤ 1000000) : GoodP Tryz.prog gl0 64 [rowS eB 0 1 std fun _ => L] (.tup [rowS eB 0 1 std fun _ => if L.length = 0 then [] else if 2048 < L.length then [] else fPutL L, .int .i64 (std.ti fun _ => if L.length = 0 then 2 else if 2048 < L.length then 4 else 0)]) := by
  refine fn_sound' (T := seatT) (G := gf1) (X := noX) seatT_ok gf1_ok noX_ok noI_ok mixed Tryz.func64 (.none) (fun A => [rowS eB 0 1 A fun _ => L]) (fun A => .tup [rowS eB 0 1 A fun _ => if L.length = 0 then [] else if 2048 < L.length then [] else fPutL L, .int .i64 (A.ti fun _ => if L.length = 0 then 2 else if 2048 < L.length then 4 else 0)]) fun A hA => ?_
  cbv
  repeat' (first | with_reducible exact True.intro | with_reducible exact dr_ok hA (by kernel_rfl) | with_reducible refine And.intro ?_ ?_ | (intro hc; cbv))
  all_goals (subst hA; simp [-List.getD_eq_getElem?_getD, std_add, std_sub, std_mul, std_quo, std_rem, std_band, std_bor, std_bxor, std_shl, std_shr, std_eq, std_ne, std_lt, std_le, std_conv, std_not, std_beq, std_bne, std_ite, std_want, std_and2, std_sadd, std_seq, std_sne, std_slt, std_sle, std_sgt, std_sge, std_slen, std_sget, std_scut, std_ofNat, std_toNat, std_nsub, std_nadd, std_lenOf, std_nz, std_nneg, std_inb, std_upto, std_slt63, std_grow, std_imp, std_impN, std_tr, std_tb, std_ti, std_ts, std_tn, std_tp, std_nmin, std_makes, std_room, std_zeros, std_nilq, std_notq, std_eqi, std_eqn, std_eqb, std_eqs, std_eqv, std_cat, std_lst, std_rset, std_rcopy, std_shift, std_eqr, std_strOf, std_bytesOf, std_isB, std_zOf, zOf_int, std_isI, isI_int, std_getL, std_nmul, std_sOf, sOf_str, std_isS, isS_str, strOf_lit, lstOf_lit inj_eB, lstOf_lit inj_eZ, lstOf_lit inj_eBs, lstOf_lit inj_eS, isRow_lit, isB_lit, isRow_nil, lstOf_nil inj_eB, lstOf_nil inj_eZ, lstOf_nil inj_eBs, lstOf_nil inj_eS] at *)
  all_goals first
    | exact fun h => absurd hc h
    | (rw [if_pos hc]; rfl)
    | (have h0 : ¬L = [] := by assumption
       have w1 : IntKind.i64.wrap (2 + (L.length : Int)) = 2 + (L.length : Int) := w64 (by omega)
       first
         | (rw [if_neg h0, if_pos (by omega)]; done)
         | (rw [if_neg h0, if_pos (by omega)]; rfl)
         | (rw [if_neg h0, if_neg (by omega)]; done)
         | (rw [w1]; omega)
         | (rw [if_neg h0, if_neg (by omega), w1]; (simp [fPutL]; omega))
         | (rw [if_neg h0, if_neg (by omega), w1]; (exact put_row hL (min_two _) (by simp [fPutL]) (by rw [show (2 : Int) ^ min 8 IntKind.i64.bits = 256 from rfl, Int.fdiv_eq_ediv_of_nonneg _ (by omega), wU8 _ (by omega)]; rfl) (by rw [wU8 _ (by omega)]; rfl)))
         | trace_state)
    | trace_state
theorem good_fSame (br bs : Bool) (L M : List UInt8) : GoodP Tryz.prog gl0 14 [sR std (fun _ => L) br, sR std (fun _ => M) bs] (.bool (std.tb fun _ => decide (br = bs ∧ L = M))) := by
  refine fn_sound' (T := seatT) (G := gf1) (X := noX) seatT_ok gf1_ok noX_ok noI_ok mixed Tryz.func14 (.one) (fun A => [sR A (fun _ => L) br, sR A (fun _ => M) bs]) (fun A => .bool (A.tb fun _ => decide (br = bs ∧ L = M))) fun A hA => ?_
  cbv
  repeat' (first | with_reducible exact True.intro | with_reducible exact dr_ok hA (by kernel_rfl) | with_reducible refine And.intro ?_ ?_ | (intro hc; cbv))
  all_goals (subst hA; simp [-List.getD_eq_getElem?_getD, std_add, std_sub, std_mul, std_quo, std_rem, std_band, std_bor, std_bxor, std_shl, std_shr, std_eq, std_ne, std_lt, std_le, std_conv, std_not, std_beq, std_bne, std_ite, std_want, std_and2, std_sadd, std_seq, std_sne, std_slt, std_sle, std_sgt, std_sge, std_slen, std_sget, std_scut, std_ofNat, std_toNat, std_nsub, std_nadd, std_lenOf, std_nz, std_nneg, std_inb, std_upto, std_slt63, std_grow, std_imp, std_impN, std_tr, std_tb, std_ti, std_ts, std_tn, std_tp, std_nmin, std_makes, std_room, std_zeros, std_nilq, std_notq, std_eqi, std_eqn, std_eqb, std_eqs, std_eqv, std_cat, std_lst, std_rset, std_rcopy, std_shift, std_eqr, std_strOf, std_bytesOf, std_isB, std_zOf, zOf_int, std_isI, isI_int, std_getL, std_nmul, std_sOf, sOf_str, std_isS, isS_str, strOf_lit, lstOf_lit inj_eB, lstOf_lit inj_eZ, lstOf_lit inj_eBs, lstOf_lit inj_eS, isRow_lit, isB_lit, isRow_nil, lstOf_nil inj_eB, lstOf_nil inj_eZ, lstOf_nil inj_eBs, lstOf_nil inj_eS] at *)
  rw [Bool.eq_iff_iff]; simp
end Go.Vd

set_option linter.unusedVariables false
set_option linter.unusedSimpArgs false
set_option maxRecDepth 100000
set_option maxHeartbeats 1000000
namespace Go.Vd
open Go.Proofs
noncomputable def iG : Nat → Option Func := addI 103 Tryz.f103 noI
theorem iG_ok : InOk Tryz.prog iG := addI_ok noI_ok Tryz.func103 (by kernel_rfl)
def bsSmall (L : List (List UInt8)) : Prop := L.length ≤ 10 ∧ ∀ b ∈ L, b.length ≤ 1000000
theorem small_getD {L : List (List UInt8)} (h : bsSmall L) (i : Nat) : (L.getD i []).length ≤ 1000000 := by
  rw [List.getD_eq_getElem?_getD]
  rcases Nat.lt_or_ge i L.length with hi | hi
  · rw [List.getElem?_eq_getElem hi]; exact h.2 _ (List.getElem_mem hi)
  · rw [List.getElem?_eq_none hi]; simp
theorem flat_snoc {L : List (List UInt8)} {i : Nat} (hi : i < L.length) : (L.take (i + 1)).flatten = (L.take i).flatten ++ L.getD i [] := by
  rw [← take_snoc (d := []) hi]; simp
theorem flat_le (L : List (List UInt8)) (j : Nat) : (L.take j).flatten.length ≤ L.flatten.length := by
  conv => rhs; rw [← List.take_append_drop j L, List.flatten_append, List.length_append]
  omega
theorem zero_row (S : Nat) : eqrS S 1 (fun _ => getAt [SV.int IntKind.u8 0]) (rowF eB 0 std fun _ => List.replicate S 0) :=
  (Reps.fill (enc := eB) (d := 0) (k := 1) (n := S) (g := fun _ => getAt [SV.int IntKind.u8 0]) (x := 0) (cell_eB (by simp)) (fun i => rfl)).eqr
theorem put_in {R M : List UInt8} {g S : Nat} (hR : R.length = S) (h : g + M.length ≤ S) : ∃ R', R'.length = S ∧ R'.take (g + M.length) = R.take g ++ M ∧ eqrS S 1 (rcopyS (rowF eB 0 std fun _ => R) g M.length (rowF eB 0 std fun _ => M)) (rowF eB 0 std fun _ => R') := by
  subst hR
  have h1 := (Reps.lit (enc := eB) (d := 0) (k := 1) R).rcopy (.lit M) g h
  refine ⟨_, h1.1, ?_, h1.eqr⟩
  have h2 : g + M.length = (R.take g ++ M).length := by rw [List.length_append, List.length_take]; omega
  conv => lhs; rw [h2]
  exact List.take_left
theorem good_Concat (L : List (List UInt8)) (hL : bsSmall L) : GoodP Tryz.prog gl0 52 [rowS eBs [] 1 std fun _ => L] (rowS eB 0 1 std fun _ => L.flatten) := by
  refine fn_sound' (T := seatT) (G := noC) (X := noX) seatT_ok noC_ok noX_ok iG_ok mixed Tryz.func52 (.none) (fun A => [rowS eBs [] 1 A fun _ => L]) (fun A => rowS eB 0 1 A fun _ => L.flatten) fun A hA => ?_
  cbv
  repeat' (first | with_reducible exact True.intro | with_reducible exact dr_ok hA (by kernel_rfl) | with_reducible refine And.intro ?_ ?_ | (intro hc; cbv))
  refine ⟨⟨{p : Nat × Nat // p.1 ≤ L.length ∧ p.2 = (L.take p.1).flatten.length ∧ p.2 ≤ p.1 * 1000000}, fun b p => [(11, .int .i64 (p.1.1 : Nat)), (3, .int .i64 (p.1.2 : Nat))], fun b p => [], fun p => L.length - p.1.1, true⟩, ⟨⟨(0, 0), by simp⟩, ?_⟩, ?_⟩
  · cbv
    subst hA
    simp [-List.getD_eq_getElem?_getD, sS]
  · rintro ⟨⟨i, S⟩, hi, hS, hb⟩
    simp only at hi hS hb
    have h10 := hL.1
    cbv
    repeat' (first | with_reducible exact True.intro | with_reducible exact dr_ok hA (by kernel_rfl) | with_reducible refine And.intro ?_ ?_ | (intro hc; cbv))
    all_goals (try (subst hA; simp [-List.getD_eq_getElem?_getD, sS, strOf_lit, lstOf_lit inj_eB, lstOf_lit inj_eZ, lstOf_lit inj_eBs, lstOf_lit inj_eS, isRow_lit, isB_lit, isRow_nil, lstOf_nil inj_eB, lstOf_nil inj_eZ, lstOf_nil inj_eBs, lstOf_nil inj_eS] at *; done))
    · subst hA; simp [sS] at *; omega
    · exfalso
      have := small_getD hL i
      subst hA
      simp [-List.getD_eq_getElem?_getD, sS] at *
      have hw := w64 (n := (S : Int) + ((L.getD i []).length : Int)) (by omega)
      rw [hw] at hc
      omega
    · rename_i h1
      have hlt : i < L.length := by subst hA; simp [sS] at h1; omega
      have hm := small_getD hL i
      obtain ⟨S', hS'⟩ : ∃ S', S' = S + (L.getD i []).length := ⟨_, rfl⟩
      refine ⟨⟨(i + 1, S'), by omega, by rw [hS', flat_snoc hlt, List.length_append, hS], by omega⟩, ?_, show L.length - (i + 1) < L.length - i by omega⟩
      cbv
      subst hA
      simp [-List.getD_eq_getElem?_getD, sS, strOf_lit, lstOf_lit inj_eB, lstOf_lit inj_eZ, lstOf_lit inj_eBs, lstOf_lit inj_eS, isRow_lit, isB_lit, isRow_nil, lstOf_nil inj_eB, lstOf_nil inj_eZ, lstOf_nil inj_eBs, lstOf_nil inj_eS]
      exact ⟨(w64 (by omega)).trans (by omega), w64 (by omega)⟩
    all_goals (have hie : i = L.length := by first | (subst hA; simp [sS] at hc; omega) | (rename_i h1; subst hA; simp [sS] at h1; omega) | (rename_i h1 h2; subst hA; simp [sS] at h1; omega))
    all_goals (have hSf : S = L.flatten.length := by rw [hS, hie, List.take_length])
    all_goals (have wS : IntKind.i64.wrap ((S : Int) - IntKind.i64.wrap 0) = S := by rw [w64 (n := 0) (by omega), w64 (by omega)]; omega)
    · subst hA; simp [sS] at hc; omega
    · subst hA; simp [sS, wS] at hc ⊢; omega
    · subst hA; simp [sS, wS]
    · have hS0 : 0 < S := by subst hA; simp [sS, wS] at hc; omega
      obtain ⟨Z, hZ⟩ : ∃ Z, Z = List.replicate S (0 : UInt8) := ⟨_, rfl⟩
      refine ⟨⟨{p : Nat × Nat × List UInt8 // p.1 ≤ L.length ∧ p.2.1 = (L.take p.1).flatten.length ∧ p.2.2.length = S ∧ p.2.2.take p.2.1 = (L.take p.1).flatten}, fun b p => [(27, .int .i64 (p.1.1 : Nat)), (6, .part 33 1 0 (A.tn fun _ => p.1.2.1))], fun b p => [(33, .row 5 1 (A.tn fun _ => S) (rowF eB 0 A fun _ => p.1.2.2))], fun p => L.length - p.1.1, true⟩, ⟨⟨(0, 0, Z), by simp [hZ]⟩, ?_⟩, ?_⟩
      · cbv
        subst hA
        simp [-List.getD_eq_getElem?_getD, sS, strOf_lit, lstOf_lit inj_eB, lstOf_lit inj_eZ, lstOf_lit inj_eBs, lstOf_lit inj_eS, isRow_lit, isB_lit, isRow_nil, lstOf_nil inj_eB, lstOf_nil inj_eZ, lstOf_nil inj_eBs, lstOf_nil inj_eS]
        exact ⟨by rw [wS]; simp, hZ ▸ zero_row S⟩
      · rintro ⟨⟨k, g, R⟩, hk, hg, hR, hT⟩
        simp only at hk hg hR hT
        cbv
        repeat' (first | with_reducible exact True.intro | with_reducible exact dr_ok hA (by kernel_rfl) | with_reducible refine And.intro ?_ ?_ | (intro hc; cbv))
        all_goals (try (subst hA; simp [-List.getD_eq_getElem?_getD, sS, strOf_lit, lstOf_lit inj_eB, lstOf_lit inj_eZ, lstOf_lit inj_eBs, lstOf_lit inj_eS, isRow_lit, isB_lit, isRow_nil, lstOf_nil inj_eB, lstOf_nil inj_eZ, lstOf_nil inj_eBs, lstOf_nil inj_eS] at *; done))
        · subst hA; simp [sS] at hc ⊢; omega
        · have hlt : k < L.length := by subst hA; simp [sS] at hc; omega
          have h1 := flat_le L (k + 1)
          rw [flat_snoc hlt, List.length_append] at h1
          subst hA; simp [-List.getD_eq_getElem?_getD, sS]; omega
        · have hlt : k < L.length := by subst hA; simp [sS] at hc; omega
          have h1 := flat_le L (k + 1)
          rw [flat_snoc hlt, List.length_append] at h1
          obtain ⟨R', hR', hT', hE⟩ := put_in (M := L.getD k []) (g := g) hR (by omega)
          obtain ⟨g', hg'⟩ : ∃ g', g' = g + (L.getD k []).length := ⟨_, rfl⟩
          refine ⟨⟨(k + 1, g', R'), by omega, by rw [hg', flat_snoc hlt, List.length_append, hg], hR', by rw [hg', hT', hT, flat_snoc hlt]⟩, ?_, show L.length - (k + 1) < L.length - k by omega⟩
          cbv
          subst hA
          simp [-List.getD_eq_getElem?_getD, sS, strOf_lit, lstOf_lit inj_eB, lstOf_lit inj_eZ, lstOf_lit inj_eBs, lstOf_lit inj_eS, isRow_lit, isB_lit, isRow_nil, lstOf_nil inj_eB, lstOf_nil inj_eZ, lstOf_nil inj_eBs, lstOf_nil inj_eS]
          exact ⟨⟨hg'.symm, w64 (by omega)⟩, hE⟩
        all_goals (have hke : k = L.length := by subst hA; simp [sS] at hc; omega)
        all_goals (have hgf : g = L.flatten.length := by rw [hg, hke, List.take_length])
        · subst hA; simp [sS, hgf]
        · subst hA
          simp only [sS]
          refine (((Reps.lit (enc := eB) (d := 0) (k := 1) R).shift (m := L.flatten.length) 0 (by omega)).congr rfl ?_).eqr
          rw [List.drop_zero, ← hgf, hT, hke, List.take_length]
    · have hS0 : S = 0 := by subst hA; simp [sS, wS] at hc; omega
      have hall : ∀ k, k < L.length → (L.getD k []).length = 0 := by
        intro k hk
        have h1 := flat_le L (k + 1)
        rw [flat_snoc hk, List.length_append] at h1
        omega
      refine ⟨⟨{k : Nat // k ≤ L.length}, fun b k => [(27, .int .i64 (k.1 : Nat)), (6, .own b)], fun b k => [(b, .row 5 1 (A.tn fun _ => 0) (rowF eB 0 A fun _ => []))], fun k => L.length - k.1, true⟩, ⟨⟨0, by omega⟩, ?_⟩, ?_⟩
      · cbv
        subst hA
        simp [-List.getD_eq_getElem?_getD, sS, strOf_lit, lstOf_lit inj_eB, lstOf_lit inj_eZ, lstOf_lit inj_eBs, lstOf_lit inj_eS, isRow_lit, isB_lit, isRow_nil, lstOf_nil inj_eB, lstOf_nil inj_eZ, lstOf_nil inj_eBs, lstOf_nil inj_eS]
      · rintro ⟨k, hk⟩
        cbv
        repeat' (first | with_reducible exact True.intro | with_reducible exact dr_ok hA (by kernel_rfl) | with_reducible refine And.intro ?_ ?_ | (intro hc; cbv))
        all_goals (try (subst hA; simp [-List.getD_eq_getElem?_getD, sS, strOf_lit, lstOf_lit inj_eB, lstOf_lit inj_eZ, lstOf_lit inj_eBs, lstOf_lit inj_eS, isRow_lit, isB_lit, isRow_nil, lstOf_nil inj_eB, lstOf_nil inj_eZ, lstOf_nil inj_eBs, lstOf_nil inj_eS] at *; done))
        all_goals first
          | (subst hA; simp [sS] at hc ⊢; omega)
          | (have hlt : k < L.length := by (subst hA; simp [sS] at hc; omega)
             have h0 := hall k hlt
             refine ⟨⟨k + 1, by omega⟩, ?_, show L.length - (k + 1) < L.length - k by omega⟩
             cbv
             subst hA
             simp [-List.getD_eq_getElem?_getD, sS, strOf_lit, lstOf_lit inj_eB, lstOf_lit inj_eZ, lstOf_lit inj_eBs, lstOf_lit inj_eS, isRow_lit, isB_lit, isRow_nil, lstOf_nil inj_eB, lstOf_nil inj_eZ, lstOf_nil inj_eBs, lstOf_nil inj_eS, h0]
             first
               | exact w64 (by omega)
               | exact ⟨w64 (by omega), fun a c ha => absurd ha (by omega)⟩
               | exact ⟨⟨h0, w64 (by omega)⟩, fun a c ha => absurd ha (by omega)⟩
               | trace_state)
          | (have hlt : k < L.length := by (subst hA; simp [sS] at hc; omega)
             have h0 := hall k hlt
             subst hA; simp [-List.getD_eq_getElem?_getD, sS, h0]; done)
          | (subst hA; simp only [sS]; omega)
          | (subst hA; simp only [sS]; (exact fun a c ha => absurd ha (by omega)))
          | trace_state
end Go.Vd

set_option linter.unusedVariables false
set_option linter.unusedSimpArgs false
set_option maxRecDepth 100000
set_option maxHeartbeats 4000000
namespace Go.Vd
open Go.Proofs
noncomputable def iGet : Nat → Option Func := addI 137 Tryz.f137 (addI 138 Tryz.f138 noI)
theorem iGet_ok : InOk Tryz.prog iGet := addI_ok (addI_ok noI_ok Tryz.func138 (by kernel_rfl)) Tryz.func137 (by kernel_rfl)
theorem good_mGet (T : List UInt8) (L : List It) (n : Int) (hL : L.length ≤ 1000000) : GoodP Tryz.prog gl0 90 [.agg [.str T, rowS eI (0, []) 2 std fun _ => L], .int .i64 n] (.tup [.str (std.ts fun _ => mG L n), .bool (std.tb fun _ => mH L n)]) := by
  refine fn_sound' (T := seatT) (G := noC) (X := noX) seatT_ok noC_ok noX_ok iGet_ok mixed Tryz.func90 (.one) (fun A => [.agg [.str T, rowS eI (0, []) 2 A fun _ => L], .int .i64 n]) (fun A => .tup [.str (A.ts fun _ => mG L n), .bool (A.tb fun _ => mH L n)]) fun A hA => ?_
  cbv
  repeat' (first | with_reducible exact True.intro | with_reducible exact dr_ok hA (by kernel_rfl) | with_reducible refine And.intro ?_ ?_ | (intro hc; cbv))
  refine ⟨⟨{i : Nat // i ≤ L.length ∧ ∀ j, j < i → ¬(L.getD j (0, [])).1 = n}, fun b i => [(8, .int .i64 (i.1 : Nat))], fun b i => [], fun i => L.length - i.1, true⟩, ⟨⟨0, by omega, fun j hj => absurd hj (by omega)⟩, ?_⟩, ?_⟩
  · cbv
    subst hA
    simp [-List.getD_eq_getElem?_getD, sS]
  · rintro ⟨i, hi, h0⟩
    cbv
    repeat' (first | with_reducible exact True.intro | with_reducible exact dr_ok hA (by kernel_rfl) | with_reducible refine And.intro ?_ ?_ | (intro hc; cbv))
    all_goals first
      | (fail_if_success (refine Exists.intro ?_ ?_)
         subst hA
         simp [-List.getD_eq_getElem?_getD, sS] at *
         done)
      | (fail_if_success (refine Exists.intro ?_ ?_)
         subst hA
         simp [-List.getD_eq_getElem?_getD, sS] at *
         first
           | omega
           | (have e : (L.getD i (0, [])).1 = n := by assumption
              have := mG_at (by omega) h0 e
              first
                | (rw [this.1]; done)
                | (rw [this.2]; done))
           | (have hie : i = L.length := by omega
              subst hie
              have := mG_none h0
              first
                | (rw [this.1]; done)
                | (rw [this.2]; done))
           | trace_state)
      | (have hlt : i < L.length := by (clear h0; subst hA; simp [-List.getD_eq_getElem?_getD, sS] at *; omega)
         have hne : ¬(L.getD i (0, [])).1 = n := by (clear h0; subst hA; simp [-List.getD_eq_getElem?_getD, sS] at *; assumption)
         refine ⟨⟨i + 1, by omega, fun j hj => ?_⟩, ?_, show L.length - (i + 1) < L.length - i by omega⟩
         · by_cases e : j = i
           · subst e; exact hne
           · exact h0 j (by omega)
         cbv
         subst hA
         simp [sS]
         exact (w64 (by omega)).trans (by omega))
      | trace_state
noncomputable def c_mGet : Ct := fun A args => match args with
  | [.agg [.str T, .slc n 2 f], .int .i64 z] => some (some (A.tp fun _ => isRow eI (0, []) 2 n f ∧ n ≤ 1000000), .tup [.str (A.ts fun _ => mG (lstOf eI (0, []) 2 n f) z), .bool (A.tb fun _ => mH (lstOf eI (0, []) 2 n f) z)])
  | _ => none
noncomputable def c_bOf : Ct := fun A args => match args with
  | [.slc n 1 f] => some (some (A.tp fun _ => isRow eZ 0 1 n f ∧ n ≤ 9223372036854775807), r9 A fun _ => lstOf eZ 0 1 n f)
  | _ => none
noncomputable def c_bFields : Ct := fun A args => match args with
  | [.agg [.int .u64 h, .int .u64 l]] => some (some (A.tp fun _ => r64 h ∧ r64 l), r16 A h l)
  | _ => none
noncomputable def c_bRead : Ct := fun A args => match args with
  | [.slc n 1 f] => some (some (A.tp fun _ => isRow eB 0 1 n f ∧ n ≤ 9223372036854775807), r20 A fun _ => lstOf eB 0 1 n f)
  | _ => none
noncomputable def c_bBytes : Ct := fun A args => match args with
  | [.agg [.int .u64 h, .int .u64 l]] => some (some (A.tp fun _ => r64 h ∧ r64 l), r18 A h l)
  | _ => none
noncomputable def c_Concat : Ct := fun A args => match args with
  | [.slc n 1 f] => some (some (A.tp fun _ => isRow eBs [] 1 n f ∧ bsSmall (lstOf eBs [] 1 n f)), rowS eB 0 1 A fun _ => (lstOf eBs [] 1 n f).flatten)
  | _ => none
noncomputable def c_mIsT2 : Ct := fun A args => match args with
  | [.str s] => some (none, .bool (A.tb fun _ => mT s))
  | _ => none
noncomputable def c_mRight2 : Ct := fun A args => match args with
  | [.agg [.str T, .slc n 2 f]] => some (some (A.tp fun _ => isRow eI (0, []) 2 n f ∧ n ≤ 1000000 ∧ ∀ i, ((lstOf eI (0, []) 2 n f).getD i (0, [])).2.length ≤ 1000000), .bool (A.tb fun _ => mR T (lstOf eI (0, []) 2 n f)))
  | _ => none
noncomputable def gM0 : Ar → Pu := addC 90 c_mGet (addC 110 c_bOf (addC 86 c_bFields (addC 84 c_bRead (addC 111 c_bBytes (addC 52 c_Concat (addC 83 c_mIsT2 (addC 55 c_mRight2 (gh6))))))))
theorem gM0_ok : PuOk Tryz.prog gl0 (gM0 std) := by
  refine addC_ok (addC_ok (addC_ok (addC_ok (addC_ok (addC_ok (addC_ok (addC_ok (gh6_ok) ⟨_, Tryz.func55, rfl, by decide⟩ ?_) ⟨_, Tryz.func83, rfl, by decide⟩ ?_) ⟨_, Tryz.func52, rfl, by decide⟩ ?_) ⟨_, Tryz.func111, rfl, by decide⟩ ?_) ⟨_, Tryz.func84, rfl, by decide⟩ ?_) ⟨_, Tryz.func86, rfl, by decide⟩ ?_) ⟨_, Tryz.func110, rfl, by decide⟩ ?_) ⟨_, Tryz.func90, rfl, by decide⟩ ?_
  · intro args p r h hp
    unfold c_mRight2 at h
    split at h <;> cases h
    exact good_mRight' hp
  · intro args p r h hp
    unfold c_mIsT2 at h
    split at h <;> cases h
    exact good_mIsT _
  · intro args p r h hp
    unfold c_Concat at h
    split at h <;> cases h
    exact good_sv (good_Concat _ hp.2) ⟨hp.1.sv, trivial⟩
  · intro args p r h hp
    unfold c_bBytes at h
    split at h <;> cases h
    exact good18 hp.1 hp.2
  · intro args p r h hp
    unfold c_bRead at h
    split at h <;> cases h
    exact c20_ok hp
  · intro args p r h hp
    unfold c_bFields at h
    split at h <;> cases h
    exact good16 hp.1 hp.2
  · intro args p r h hp
    unfold c_bOf at h
    split at h <;> cases h
    exact good_sv (good9 _ (by rw [lstOf_length hp.1]; exact hp.2)) ⟨hp.1.sv, trivial⟩
  · intro args p r h hp
    unfold c_mGet at h
    split at h <;> cases h
    exact good_sv (good_mGet _ _ _ (by rw [lstOf_length hp.1]; exact hp.2)) ⟨⟨_, rfl, rfl, hp.1.sv, trivial⟩, rfl, trivial⟩
theorem bofS_lt : ∀ (L : List Int) (h l : Nat) (m : Nat × Nat), h < 18446744073709551616 → l < 18446744073709551616 → L.foldl (fun o n => o.bind fun m => if bright m.1 m.2 && bfield n then some (bput m.1 m.2 n) else none) (some (h, l)) = some m → m.1 < 18446744073709551616 ∧ m.2 < 18446744073709551616
  | [], h, l, m, hh, hl, e => by cases e; exact ⟨hh, hl⟩
  | n :: L, h, l, m, hh, hl, e => by
    rw [List.foldl_cons] at e
    simp only [Option.bind_some] at e
    split at e
    · have := bput_lt n hh hl
      exact bofS_lt L _ _ m this.1 this.2 e
    · rw [bofS_none (fun m n => if bright m.1 m.2 && bfield n then some (bput m.1 m.2 n) else none)] at e
      cases e
theorem bof_lt (L : List Int) : (bof L).1 < 18446744073709551616 ∧ (bof L).2 < 18446744073709551616 := by
  unfold bof
  cases e : bofS L with
  | none => exact ⟨by decide, by decide⟩
  | some m => exact bofS_lt L 0 0 m (by decide) (by decide) e
def boB (L : List Int) : List UInt8 := if boferr L = 0 then bbytes (bof L).1 (bof L).2 else []
def boE (L : List Int) : Int := if boferr L = 0 then bbErr (bof L).1 (bof L).2 else boferr L
theorem bo_yes {L : List Int} (h : boferr L = 0) : boB L = bbytes (bof L).1 (bof L).2 ∧ boE L = bbErr (bof L).1 (bof L).2 := ⟨if_pos h, if_pos h⟩
theorem bo_no {L : List Int} (h : ¬boferr L = 0) : boB L = [] ∧ boE L = boferr L := ⟨if_neg h, if_neg h⟩
theorem good_bitsOf (L : List Int) (hL : L.length ≤ 1000000) : GoodP Tryz.prog gl0 57 [rowS eZ 0 1 std fun _ => L] (.tup [.frs 5 1 (std.tn fun _ => (boB L).length) (rowF eB 0 std fun _ => boB L), .int .i64 (std.ti fun _ => boE L)]) := by
  refine fn_sound' (T := seatT) (G := gM0) (X := noX) seatT_ok gM0_ok noX_ok noI_ok mixed Tryz.func57 (.fresh 5 1) (fun A => [rowS eZ 0 1 A fun _ => L]) (fun A => .tup [.frs 5 1 (A.tn fun _ => (boB L).length) (rowF eB 0 A fun _ => boB L), .int .i64 (A.ti fun _ => boE L)]) fun A hA => ?_
  cbv
  repeat' (first | with_reducible exact True.intro | with_reducible exact dr_ok hA (by kernel_rfl) | with_reducible refine And.intro ?_ ?_ | (intro hc; cbv))
  all_goals (have hb := bof_lt L)
  all_goals (subst hA; simp [sS, strOf_lit, lstOf_lit inj_eB, lstOf_lit inj_eZ, lstOf_lit inj_eBs, lstOf_lit inj_eS, isRow_lit, isB_lit, isRow_nil, lstOf_nil inj_eB, lstOf_nil inj_eZ, lstOf_nil inj_eBs, lstOf_nil inj_eS] at *)
  all_goals first
    | omega
    | exact ⟨r64_of hb.1, r64_of hb.2⟩
    | (have hx := bo_no hc
       first
         | (rw [hx.1]; done)
         | (rw [hx.1]; rfl)
         | (rw [hx.2]; done)
         | (rw [hx.1]; exact fun i j hi => absurd hi (by simp)))
    | (have hx := bo_yes hc
       first
         | (rw [hx.1]; done)
         | (rw [hx.2]; done)
         | (rw [hx.1]; exact (Reps.lit _).eqr))
    | trace_state
noncomputable def c_bitsOf : Ct := fun A args => match args with
  | [.slc n 1 f] => some (some (A.tp fun _ => isRow eZ 0 1 n f ∧ n ≤ 1000000), .tup [.frs 5 1 (A.tn fun _ => (boB (lstOf eZ 0 1 n f)).length) (rowF eB 0 A fun _ => boB (lstOf eZ 0 1 n f)), .int .i64 (A.ti fun _ => boE (lstOf eZ 0 1 n f))])
  | _ => none
noncomputable def gM1 : Ar → Pu := addC 57 c_bitsOf (gM0)
theorem gM1_ok : PuOk Tryz.prog gl0 (gM1 std) := by
  refine addC_ok (gM0_ok) ⟨_, Tryz.func57, rfl, by decide⟩ ?_
  · intro args p r h hp
    unfold c_bitsOf at h
    split at h <;> cases h
    exact good_sv (good_bitsOf _ (by rw [lstOf_length hp.1]; exact hp.2)) ⟨hp.1.sv, trivial⟩
theorem fs_take {L : List It} {i : Nat} (h : i < L.length) : fs (L.take (i + 1)) = fs (L.take i) ++ [(L.getD i (0, [])).1] := by
  rw [← take_snoc (d := (0, [])) h]; simp [fs]
theorem body_take {L : List It} {i : Nat} (h : i < L.length) : body (L.take (i + 1)) = body (L.take i) ++ fWr (L.getD i (0, [])).1 (L.getD i (0, [])).2 := by
  rw [← take_snoc (d := (0, [])) h, body_app]; simp [body]
theorem fWr_len {n : Int} {s : List UInt8} (h : rr n s = true) : (fWr n s).length ≤ s.length + 3 := by
  by_cases hk : dKd n < 3
  · rw [(we_fix h hk).2]; omega
  · rw [(we_long h (by omega)).2, List.length_append, decs_len]
    have := fAh_le (dKd n)
    omega
theorem body_len {L : List It} (h : ∀ x ∈ L, rr x.1 x.2 = true) : (body L).length ≤ L.length * 1002 := by
  induction L with
  | nil => simp [body]
  | cons x L ih =>
    rw [body_cons, List.length_append, List.length_cons]
    have h1 := fWr_len (h x (by simp))
    have h2 := rr_ok (h x (by simp))
    have h3 := dOk_b h2.1
    have := ih fun y hy => h y (List.mem_cons_of_mem _ hy)
    omega
def mWx (T : List UInt8) (L : List It) : List UInt8 := if mR T L = true then mW T L else []
def mWe (T : List UInt8) (L : List It) : Int := if mR T L = true then 0 else 1
theorem mw_no {T : List UInt8} {L : List It} (h : mR T L = false) : mWx T L = [] ∧ mWe T L = 1 := by unfold mWx mWe; rw [h]; exact ⟨rfl, rfl⟩
theorem mw_yes {T : List UInt8} {L : List It} (h : mR T L = true) : mWx T L = mW T L ∧ mWe T L = 0 := by unfold mWx mWe; rw [h]; exact ⟨rfl, rfl⟩
theorem rr_at {L : List It} (h : ∀ x ∈ L, rr x.1 x.2 = true) {i : Nat} (hi : i < L.length) : rr (L.getD i (0, [])).1 (L.getD i (0, [])).2 = true := by
  rw [List.getD_eq_getElem?_getD, List.getElem?_eq_getElem hi]
  exact h _ (List.getElem_mem hi)
theorem three_rows {n1 n2 n3 : Nat} {f1 f2 f3 : Nat → Nat → SV} {X Y Z : List UInt8} (h1 : Reps eB 0 1 n1 f1 X) (h2 : Reps eB 0 1 n2 f2 Y) (h3 : Reps eB 0 1 n3 f3 Z) : Reps eBs [] 1 3 (lstS [[.slc n1 1 f1], [.slc n2 1 f2], [.slc n3 1 f3]]) [X, Y, Z] :=
  Reps.lst (l := [[_], [_], [_]]) (L := [X, Y, Z]) ⟨cell_eBs h1, cell_eBs h2, cell_eBs h3, trivial⟩
theorem good_mWrite (T : List UInt8) (L : List It) (hL : L.length ≤ 500) (hS : ∀ i, (L.getD i (0, [])).2.length ≤ 1000000) : GoodP Tryz.prog gl0 20 [.agg [.str T, rowS eI (0, []) 2 std fun _ => L]] (.tup [rowS eB 0 1 std fun _ => mWx T L, .int .i64 (std.ti fun _ => mWe T L)]) := by
  refine fn_sound' (T := seatT) (G := gM1) (X := noX) seatT_ok gM1_ok noX_ok noI_ok mixed Tryz.func20 (.none) (fun A => [.agg [.str T, rowS eI (0, []) 2 A fun _ => L]]) (fun A => .tup [rowS eB 0 1 A fun _ => mWx T L, .int .i64 (A.ti fun _ => mWe T L)]) fun A hA => ?_
  cbv
  repeat' (first | with_reducible exact True.intro | with_reducible exact dr_ok hA (by kernel_rfl) | with_reducible refine And.intro ?_ ?_ | (intro hc; cbv))
  all_goals first
    | (fail_if_success (refine Exists.intro ?_ ?_)
       subst hA
       simp [sS, lstOf_lit inj_eI] at *
       first
         | done
         | exact ⟨isRow_lit _, by omega, hS⟩
         | (rw [(mw_no hc).1]; done)
         | (rw [(mw_no hc).1]; rfl)
         | (rw [(mw_no hc).2]; done)
         | trace_state)
    | skip
  have hr : mR T L = true := by subst hA; simp [sS, lstOf_lit inj_eI] at hc; exact hc
  have hri := mR_iff.1 hr
  clear hc
  refine ⟨⟨{p : Nat × List Int × List UInt8 // p.1 ≤ L.length ∧ p.2.1 = fs (L.take p.1) ∧ p.2.2 = body (L.take p.1)}, fun b p => [(18, .int .i64 (p.1.1 : Nat)), (4, .own b), (5, .own (b + 1))], fun b p => [(b, .row 3 1 (A.tn fun _ => p.1.2.1.length) (rowF eZ 0 A fun _ => p.1.2.1)), (b + 1, .row 5 1 (A.tn fun _ => p.1.2.2.length) (rowF eB 0 A fun _ => p.1.2.2))], fun p => L.length - p.1.1, true⟩, ⟨⟨(0, [], []), by simp [fs, body]⟩, ?_⟩, ?_⟩
  · cbv
    subst hA
    simp [-List.getD_eq_getElem?_getD, sS]
  · rintro ⟨⟨i, F, B⟩, hi, hF, hB⟩
    simp only at hi hF hB
    cbv
    repeat' (first | with_reducible exact True.intro | with_reducible exact dr_ok hA (by kernel_rfl) | with_reducible refine And.intro ?_ ?_ | (intro hc; cbv))
    all_goals first
      | (fail_if_success (refine Exists.intro ?_ ?_)
         have hlt : i < L.length := by (clear hri hr hS; subst hA; simp [sS] at *; omega)
         have hrr := rr_at hri.2.2.1 hlt
         have hwe : fWe (L.getD i (0, [])).1 (L.getD i (0, [])).2 = 0 := by unfold fWe; rw [(rr_ok hrr).1, hrr]; rfl
         have hbl := body_len (L := L.take i) (fun x hx => hri.2.2.1 x (List.mem_of_mem_take hx))
         have hwl := fWr_len hrr
         have hsl := hS i
         have hfl : (fs (L.take i)).length = i := by simp [fs]; omega
         have htl : (L.take i).length = i := by simp; omega
         rw [htl] at hbl
         subst hA
         simp [-List.getD_eq_getElem?_getD, sS, hwe, hF, hB] at *
         first
           | done
           | omega
           | assumption
           | (constructor <;> omega))
      | (have hlt : i < L.length := by (clear hri hr hS; subst hA; simp [sS] at *; omega)
         obtain ⟨i', hi'⟩ : ∃ i', i' = i + 1 := ⟨_, rfl⟩
         obtain ⟨F', hF'⟩ : ∃ F', F' = fs (L.take i') := ⟨_, rfl⟩
         obtain ⟨B', hB'⟩ : ∃ B', B' = body (L.take i') := ⟨_, rfl⟩
         refine ⟨⟨(i', F', B'), by omega, hF', hB'⟩, ?_, show L.length - i' < L.length - i by omega⟩
         rw [hi', fs_take hlt, ← hF] at hF'
         rw [hi', body_take hlt, ← hB] at hB'
         cbv
         subst hA
         simp [-List.getD_eq_getElem?_getD, sS, strOf_lit, lstOf_lit inj_eB, lstOf_lit inj_eZ, lstOf_lit inj_eBs, lstOf_lit inj_eS, isRow_lit, isB_lit, isRow_nil, lstOf_nil inj_eB, lstOf_nil inj_eZ, lstOf_nil inj_eBs, lstOf_nil inj_eS]
         first
           | exact ⟨(w64 (by omega)).trans (by omega), ⟨by rw [hB']; simp, eqr_of (Reps.catE (.lit _) (.lit _) rfl) (by rw [hB']; simp) hB'.symm⟩, by rw [hF']; simp, snoc_row rfl (cell_eZ _) hF'.symm (by rw [hF']; simp)⟩
           | trace_state)
      | skip
    all_goals
      have hie : i = L.length := by (clear hri hr hS; subst hA; simp [sS] at *; omega)
      rw [hie, List.take_length] at hF hB
      obtain ⟨b1, b2, b3, b4, b5, b6⟩ := bof_ups hri.2.2.2 (fs_bf hri.2.2.1)
      have hw := mw_yes hr
      have hbl := body_len (L := L) hri.2.2.1
      have hfl : (fs L).length = L.length := by simp [fs]
      have hbo : boB (fs L) = mBits L ∧ boE (fs L) = 0 := by rw [(bo_yes b6).1, (bo_yes b6).2]; exact ⟨rfl, by unfold bbErr; rw [b2]; rfl⟩
      have hT := mT_len hri.1
      have hbb := bb_len b2
      have h3 := three_rows (row_bytes T) (Reps.lit (enc := eB) (d := 0) (k := 1) (mBits L)) (Reps.lit (enc := eB) (d := 0) (k := 1) (body L))
      have hl3 := lstOf_eq inj_eBs h3
      have hw3 : [T, mBits L, body L].flatten = mW T L := by simp [mW]
      have hsm : bsSmall [T, mBits L, body L] := by
        refine ⟨by simp, ?_⟩
        intro b hb
        simp only [List.mem_cons, List.not_mem_nil, or_false] at hb
        rcases hb with rfl | rfl | rfl
        · omega
        · unfold mBits; rw [hbb]; split <;> omega
        · omega
      subst hA
      simp [-List.getD_eq_getElem?_getD, sS, strOf_lit, lstOf_lit inj_eB, lstOf_lit inj_eZ, lstOf_lit inj_eBs, lstOf_lit inj_eS, isRow_lit, isB_lit, isRow_nil, lstOf_nil inj_eB, lstOf_nil inj_eZ, lstOf_nil inj_eBs, lstOf_nil inj_eS, hF, hB, hbo] at *
      first
        | done
        | omega
        | (rw [hl3]; exact ⟨⟨_, h3⟩, hsm⟩)
        | (rw [hl3, hw.1]; simp [mW]; done)
        | (rw [hl3, hw.1, hw3]; exact (Reps.lit _).eqr)
        | exact hw.2.symm
        | (rw [hw.2]; done)
        | trace_state
noncomputable def c_mWrite : Ct := fun A args => match args with
  | [.agg [.str T, .slc n 2 f]] => some (some (A.tp fun _ => isRow eI (0, []) 2 n f ∧ n ≤ 500 ∧ ∀ i, ((lstOf eI (0, []) 2 n f).getD i (0, [])).2.length ≤ 1000000), .tup [rowS eB 0 1 A fun _ => mWx T (lstOf eI (0, []) 2 n f), .int .i64 (A.ti fun _ => mWe T (lstOf eI (0, []) 2 n f))])
  | _ => none
noncomputable def gM2 : Ar → Pu := addC 20 c_mWrite (gM1)
theorem gM2_ok : PuOk Tryz.prog gl0 (gM2 std) := by
  refine addC_ok (gM1_ok) ⟨_, Tryz.func20, rfl, by decide⟩ ?_
  · intro args p r h hp
    unfold c_mWrite at h
    split at h <;> cases h
    exact good_sv (good_mWrite _ _ (by rw [lstOf_length hp.1]; exact hp.2.1) hp.2.2) ⟨⟨_, rfl, rfl, hp.1.sv, trivial⟩, trivial⟩
end Go.Vd

