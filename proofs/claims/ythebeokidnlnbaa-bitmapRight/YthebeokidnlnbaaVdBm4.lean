/- The bitmap read, and lists alike. -/
import Derived.Test.YthebeokidnlnbaaVdBm3
set_option linter.unusedVariables false
set_option linter.unusedSimpArgs false
set_option maxRecDepth 100000
set_option maxHeartbeats 1000000
namespace Go.Vd
open Go.Proofs
def c18 : Ct := fun A args => match args with
  | [.agg [.int .u64 h, .int .u64 l]] => some (some (A.tp fun _ => r64 h ∧ r64 l), r18 A h l)
  | _ => none
def brH (L : List UInt8) : Nat := numTo L 8
def brM (L : List UInt8) : Bool := (brH L).testBit 63
def brL (L : List UInt8) : Nat := if brM L then numTo (L.drop 8) 8 else 0
def brE (L : List UInt8) : Int :=
  if L.length < 8 then 2 else if brM L && decide (L.length < 16) then 2 else if bright (brH L) (brL L) then 0 else 3
def brN (L : List UInt8) : Int := if brE L = 0 then (if brM L then 16 else 8) else 0
def br1 (L : List UInt8) : Nat := if brE L = 0 then brH L else 0
def br2 (L : List UInt8) : Nat := if brE L = 0 then brL L else 0
theorem numTo_r (L : List UInt8) (h : 8 ≤ L.length) : r64 (numTo L 8 : Nat) := r64_of (Nat.lt_of_lt_of_le (numTo_lt L 8 h) (by decide))
theorem brL_r (L : List UInt8) (h : brM L = true → 16 ≤ L.length) : r64 (brL L : Nat) := by
  unfold brL
  split
  · rename_i hb
    exact numTo_r _ (by have := h hb; simp; omega)
  · exact r64_of (by decide)
theorem bsF_eq (A : Ar) (L : Unit → List UInt8) : bsF A L = fun i _ => .int .u8 (A.ti fun _ => ((L ()).getD i 0).toNat) := rfl
theorem zsF_eq (A : Ar) (L : Unit → List Int) : zsF A L = fun i _ => .int .i64 (A.ti fun _ => (L ()).getD i 0) := rfl
theorem bsL_lit (L : List UInt8) : bsL L.length (fun i x => SV.int .u8 ((L[i]?.getD 0).toNat : Int)) = L := by
  have := bsL_bsF L
  simpa [bsF_eq, std] using this
theorem isBs_lit (L : List UInt8) (n : Nat) : isBs n (fun i x => SV.int .u8 ((L[i]?.getD 0).toNat : Int)) := fun i hi => ⟨L[i]?.getD 0, rfl⟩
theorem isBs_lit2 (L : List UInt8) (n k : Nat) : isBs n (fun i x => SV.int .u8 ((L[k + i]?.getD 0).toNat : Int)) := fun i hi => ⟨L[k + i]?.getD 0, rfl⟩
theorem bsL_drop (L : List UInt8) (k : Nat) : bsL (L.length - k) (fun i x => SV.int .u8 ((L[k + i]?.getD 0).toNat : Int)) = L.drop k := by
  apply List.ext_getElem
  · simp [bsL]
  · intro i h1 h2
    simp only [bsL, List.length_map, List.length_range] at h1
    simp [bsL, toI]
    rw [List.getElem?_eq_getElem (by omega)]
    simp
def r20 (A : Ar) (L : Unit → List UInt8) : SV := .tup [.agg [.int .u64 (A.ti fun _ => br1 (L ())), .int .u64 (A.ti fun _ => br2 (L ()))], .int .i64 (A.ti fun _ => brN (L ())), .int .i64 (A.ti fun _ => brE (L ()))]
theorem good20 (L : List UInt8) (hn : L.length ≤ 9223372036854775807) : GoodP Try.prog gl0 20 [bsS std fun _ => L] (r20 std fun _ => L) := by
  refine fn_sound' (T := seatT) (G := g4) (X := noX) seatT_ok g4_ok noX_ok noI_ok mixed Try.func20 .one (fun A => [bsS A fun _ => L]) (fun A => r20 A fun _ => L) fun A hA => ?_
  cbv
  repeat' (first | with_reducible exact True.intro | with_reducible exact dr_ok hA (by kernel_rfl) | with_reducible refine And.intro ?_ ?_ | (intro hc; cbv))
  all_goals (subst hA; simp [std, bsF_eq, bsL_lit, isBs_lit, isBs_lit2, bsL_drop] at *)
  all_goals first
    | omega
    | exact numTo_r _ (by omega)
    | exact ⟨numTo_r _ (by omega), numTo_r _ (by simp; omega)⟩
    | exact ⟨numTo_r _ (by omega), r64_of (by decide)⟩
    | (have e1 : L.length < 8 := by omega
       simp [br1, br2, brN, brE, e1]; done)
    | (have e1 : ¬ L.length < 8 := by omega
       have e2 : L.length < 16 := by omega
       simp [br1, br2, brN, brE, brL, brM, brH, e1, e2, *]; done)
    | (have e1 : ¬ L.length < 8 := by omega
       have e2 : ¬ L.length < 16 := by omega
       simp [br1, br2, brN, brE, brL, brM, brH, e1, e2, *]; done)
    | (have e1 : ¬ L.length < 8 := by omega
       simp [br1, br2, brN, brE, brL, brM, brH, e1, *]; done)
end Go.Vd
