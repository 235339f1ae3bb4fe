/- The fixed answer. -/
import Derived.Test.YthebeokidnlnbaaVdBm5
set_option linter.unusedVariables false
set_option linter.unusedSimpArgs false
set_option maxRecDepth 100000
set_option maxHeartbeats 1000000
namespace Go.Vd
open Go.Proofs
def c20 : Ct := fun A args => match args with
  | [.slc n 1 f] => some (some (A.tp fun _ => isBs n f ∧ n ≤ 9223372036854775807), r20 A fun _ => bsL n f)
  | _ => none
def c15 : Ct := fun A args => match args with
  | [.slc n 1 f, .slc m 1 g] => some (some (A.tp fun _ => isZs n f ∧ isZs m g ∧ n ≤ 9223372036854775807), r15 A (fun _ => zsL n f) fun _ => zsL m g)
  | _ => none
def g5 : Ar → Pu := addC 20 c20 (addC 15 c15 (addC 18 c18 g4))
theorem g5_ok : PuOk Try.prog gl0 (g5 std) := by
  refine addC_ok (addC_ok (addC_ok g4_ok ⟨_, Try.func18, rfl, by decide⟩ ?_) ⟨_, Try.func15, rfl, by decide⟩ ?_) ⟨_, Try.func20, rfl, by decide⟩ ?_
  · intro args p r h hp
    unfold c18 at h
    split at h <;> cases h
    exact good18 hp.1 hp.2
  · intro args p r h hp
    unfold c15 at h
    split at h <;> cases h
    exact good_sv (good15 _ _ (by rw [zsL_length]; exact hp.2.2)) ⟨zs_sv hp.1, zs_sv hp.2.1, trivial⟩
  · intro args p r h hp
    unfold c20 at h
    split at h <;> cases h
    exact good_sv (good20 _ (by rw [bsL_length]; exact hp.2)) ⟨bs_sv hp.1, trivial⟩
def isBsB (n : Nat) (f : Nat → Nat → SV) : Bool := (List.range n).all fun i => match f i 0 with
  | .int .u8 z => decide (0 ≤ z ∧ z < 256)
  | _ => false
def isZsB (n : Nat) (f : Nat → Nat → SV) : Bool := (List.range n).all fun i => match f i 0 with
  | .int .i64 z => true
  | _ => false
theorem isBs_of {n : Nat} {f : Nat → Nat → SV} (h : isBsB n f = true) : isBs n f := by
  intro i hi
  have := List.all_eq_true.1 h i (List.mem_range.2 hi)
  split at this
  · rename_i z hz
    have h2 := of_decide_eq_true this
    refine ⟨UInt8.ofNat z.toNat, ?_⟩
    rw [hz]
    congr 1
    simp
    omega
  · cases this
theorem isZs_of {n : Nat} {f : Nat → Nat → SV} (h : isZsB n f = true) : isZs n f := by
  intro i hi
  have := List.all_eq_true.1 h i (List.mem_range.2 hi)
  split at this
  · rename_i z hz
    exact ⟨z, hz⟩
  · cases this
theorem isB_of {n : Nat} {f : Nat → Nat → SV} (h : isBsB n f = true) : ∀ i, i < n → ∃ m, f i 0 = SV.int .u8 m := fun i hi => by
  obtain ⟨b, hb⟩ := isBs_of h i hi
  exact ⟨_, hb⟩
theorem r64_b {x : Int} (h : (decide (0 ≤ x) && decide (x < 18446744073709551616)) = true) : r64 x := by
  simp only [Bool.and_eq_true, decide_eq_true_eq] at h
  exact h
def r6 (A : Ar) : SV := .bool (A.tb fun _ => true)
theorem good6 : GoodP Try.prog gl0 6 [] (r6 std) := by
  refine fn_sound' (T := seatT) (G := g5) (X := noX) seatT_ok g5_ok noX_ok noI_ok mixed Try.func6 .one (fun A => []) (fun A => r6 A) fun A hA => ?_
  cbv
  repeat' (first | with_reducible exact True.intro | with_reducible exact dr_ok hA (by kernel_rfl) | with_reducible refine And.intro ?_ ?_ | (intro hc; cbv))
  all_goals (subst hA; first | exact False.elim ‹_› | (delta std; dsimp only))
  all_goals try intro _
  all_goals repeat' (with_reducible refine And.intro ?_ ?_)
  all_goals first
    | kernel_rfl
    | exact isZs_of (by kernel_rfl)
    | exact isBs_of (by kernel_rfl)
    | exact isB_of (by kernel_rfl)
    | exact r64_b (by kernel_rfl)
    | exact of_decide_eq_true (by kernel_rfl)
def c6 : Ct := fun A args => match args with
  | [] => some (none, r6 A)
  | _ => none
def g6 : Ar → Pu := addC 6 c6 g5
theorem g6_ok : PuOk Try.prog gl0 (g6 std) := by
  refine addC_ok g5_ok ⟨_, Try.func6, rfl, by decide⟩ ?_
  intro args p r h hp
  unfold c6 at h
  split at h <;> cases h
  exact good6
end Go.Vd
