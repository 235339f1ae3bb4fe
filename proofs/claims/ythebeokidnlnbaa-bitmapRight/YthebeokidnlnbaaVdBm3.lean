/- The bitmap's bytes. -/
import Derived.Test.YthebeokidnlnbaaVdBm2
set_option linter.unusedVariables false
set_option linter.unusedSimpArgs false
set_option maxRecDepth 100000
set_option maxHeartbeats 1000000
namespace Go.Vd
open Go.Proofs
/-- The byte of a number, the highest first. -/
def byteAt (v i : Nat) : UInt8 := UInt8.ofNat (v / 256 ^ (7 - i))
def be8 (v : Nat) : List UInt8 := (List.range 8).map (byteAt v)
def beTo (v k : Nat) : List UInt8 := (List.range k).map (byteAt v)
theorem beTo_succ (v k : Nat) : beTo v (k + 1) = beTo v k ++ [byteAt v k] := by simp [beTo, List.range_succ]
theorem beTo_len (v k : Nat) : (beTo v k).length = k := by simp [beTo]
def bbytes (h l : Nat) : List UInt8 := if bright h l then (if h.testBit 63 then be8 h ++ be8 l else be8 h) else []
def bbErr (h l : Nat) : Int := if bright h l then 0 else 1
theorem wu8 (n : Nat) : IntKind.u8.wrap (n : Int) = ((n % 256 : Nat) : Int) := by
  simp only [IntKind.wrap, IntKind.signed, IntKind.bits, Bool.false_and, Bool.false_eq_true, if_false]
  omega
theorem byte_conv (v k : Nat) (hk : k < 8) :
    IntKind.u8.wrap ((v : Int).fdiv (2 ^ min (IntKind.i64.wrap (64 - IntKind.i64.wrap (8 * IntKind.i64.wrap (k + 1)))).toNat IntKind.u64.bits)) = ((byteAt v k).toNat : Int) := by
  rw [w64 (n := (k : Int) + 1) (by omega), w64 (n := 8 * ((k : Int) + 1)) (by omega), w64 (by omega)]
  have e : min (64 - 8 * ((k : Int) + 1)).toNat IntKind.u64.bits = 8 * (7 - k) := by simp only [IntKind.bits]; omega
  have e2 : (2 ^ (8 * (7 - k)) : Int) = ((256 ^ (7 - k) : Nat) : Int) := by rw [Int.pow_mul, Int.natCast_pow]; rfl
  rw [e, e2, Int.fdiv_eq_ediv_of_nonneg _ (Int.natCast_nonneg _), ← Int.natCast_ediv, wu8]
  simp [byteAt]
noncomputable def i18 : Nat → Option Func := addI 29 Try.f29 noI
theorem i18_ok : InOk Try.prog i18 := addI_ok noI_ok Try.func29 (by decide)
def r18 (A : Ar) (h l : Int) : SV := .tup [.frs 5 1 (A.tn fun _ => (bbytes h.toNat l.toNat).length) (bsF A fun _ => bbytes h.toNat l.toNat), .int .i64 (A.ti fun _ => bbErr h.toNat l.toNat)]
theorem good18 {h l : Int} (hh : r64 h) (hl : r64 l) : GoodP Try.prog gl0 18 [.agg [.int .u64 h, .int .u64 l]] (r18 std h l) := by
  obtain ⟨h, rfl, lh⟩ := r64_nat hh
  obtain ⟨l, rfl, ll⟩ := r64_nat hl
  refine fn_sound' (T := seatT) (G := g4) (X := noX) seatT_ok g4_ok noX_ok i18_ok mixed Try.func18 (.fresh 5 1) (fun A => [.agg [.int .u64 h, .int .u64 l]]) (fun A => r18 A h l) fun A hA => ?_
  cbv
  repeat' (first | with_reducible exact True.intro | with_reducible exact dr_ok hA (by kernel_rfl) | with_reducible refine And.intro ?_ ?_ | (intro hc; cbv))
  · subst hA; exact ⟨hh, hl⟩
  · subst hA; simp [std] at hc ⊢; simp [bbytes, hc]
  · subst hA; simp [std] at hc ⊢; simp [bbytes, hc]
  · subst hA; simp [std] at hc ⊢; simp [bbErr, hc]
  · have hb : bright h l = true := by subst hA; simpa [std] using hc
    refine ⟨⟨{k : Nat // k ≤ 8}, fun b k => [(0, .own b), (6, .int .i64 (k.1 : Nat))], fun b k => [(b, .row 5 1 k.1 (bsF A fun _ => beTo h k.1))], fun k => 8 - k.1, true⟩, ⟨⟨0, by omega⟩, ?_⟩, ?_⟩
    · cbv
      subst hA
      simp [std]
    · rintro ⟨k, hk⟩
      cbv
      repeat' (first | with_reducible exact True.intro | with_reducible exact dr_ok hA (by kernel_rfl) | with_reducible refine And.intro ?_ ?_ | (intro hc; cbv))
      · subst hA; simp [std] at hc ⊢; rw [w64 (n := (k : Int) + 1) (by omega), w64 (n := 8 * ((k : Int) + 1)) (by omega), w64 (by omega)]; omega
      · subst hA; simp [std]; omega
      · have hlt : k < 8 := by subst hA; simp [std] at hc; omega
        refine ⟨⟨k + 1, by omega⟩, ?_, show 8 - (k + 1) < 8 - k by omega⟩
        cbv
        repeat' (first | with_reducible exact True.intro | with_reducible exact dr_ok hA (by kernel_rfl) | with_reducible refine And.intro ?_ ?_)
        all_goals (subst hA; simp [std, bsF])
        · rw [w64 (by omega)]
        · have := snoc_b (beTo h k) (byteAt h k) _ (byte_conv h k hlt)
          rw [beTo_len] at this
          rw [beTo_succ]
          simpa using this
      · subst hA; exact hh
      · have hk8 : k = 8 := by subst hA; simp [std] at *; omega
        have ht : h.testBit 63 = true := by subst hA; simp [std] at *; assumption
        subst hk8
        refine ⟨⟨{k : Nat // k ≤ 8}, fun b k => [(0, .own 10), (6, .int .i64 (k.1 : Nat))], fun b k => [(10, .row 5 1 (A.tn fun _ => 8 + k.1) (bsF A fun _ => be8 h ++ beTo l k.1))], fun k => 8 - k.1, true⟩, ⟨⟨0, by omega⟩, ?_⟩, ?_⟩
        · cbv
          repeat' (first | with_reducible exact True.intro | with_reducible exact dr_ok hA (by kernel_rfl) | with_reducible refine And.intro ?_ ?_)
          all_goals (subst hA; simp [std, bsF, beTo, be8])
        · rintro ⟨k, hk⟩
          cbv
          repeat' (first | with_reducible exact True.intro | with_reducible exact dr_ok hA (by kernel_rfl) | with_reducible refine And.intro ?_ ?_ | (intro hc; cbv))
          · subst hA; simp [std] at hc ⊢; rw [w64 (n := (k : Int) + 1) (by omega), w64 (n := 8 * ((k : Int) + 1)) (by omega), w64 (by omega)]; omega
          · subst hA; simp [std]; omega
          · have hlt : k < 8 := by subst hA; simp [std] at hc; omega
            refine ⟨⟨k + 1, by omega⟩, ?_, show 8 - (k + 1) < 8 - k by omega⟩
            cbv
            repeat' (first | with_reducible exact True.intro | with_reducible exact dr_ok hA (by kernel_rfl) | with_reducible refine And.intro ?_ ?_)
            all_goals (subst hA; simp [std, bsF])
            · rw [w64 (by omega)]
            · omega
            · have := snoc_b (be8 h ++ beTo l k) (byteAt l k) _ (byte_conv l k hlt)
              rw [List.length_append, beTo_len, show (be8 h).length = 8 by simp [be8]] at this
              rw [beTo_succ, ← List.append_assoc]
              simpa [Nat.add_assoc] using this
          · have hk8 : k = 8 := by subst hA; simp [std] at hc; omega
            subst hA hk8
            simp [std, bbytes, hb, ht, be8]
          · have hk8 : k = 8 := by subst hA; simp [std] at hc; omega
            subst hA hk8
            simp [std, bbytes, hb, ht, be8, beTo, bsF]
          · subst hA; simp [std, bbErr, hb]
      · have hk8 : k = 8 := by subst hA; simp [std] at *; omega
        have ht : h.testBit 63 = false := by subst hA; simp [std] at *; assumption
        subst hA hk8
        simp [std, bbytes, hb, ht, be8]
      · have hk8 : k = 8 := by subst hA; simp [std] at *; omega
        have ht : h.testBit 63 = false := by subst hA; simp [std] at *; assumption
        subst hA hk8
        simp [std, bbytes, hb, ht, be8, beTo, bsF]
      · subst hA; simp [std, bbErr, hb]
end Go.Vd
