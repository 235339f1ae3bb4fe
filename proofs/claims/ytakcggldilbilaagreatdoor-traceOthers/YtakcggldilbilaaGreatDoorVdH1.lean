/- The digits' functions: rows of digits, their numbers. -/
import Derived.Test.YtakcggldilbilaaGreatDoorVdKM
import Derived.RangeFuncNested
import Derived.RangeFuncBound
import Derived.RangeFuncCalls
import Derived.RangeFuncLeaves
import Derived.Shelf.Abstract
import Derived.Shelf.RegionOpen
import Derived.WalkKit
import Derived.OwnWalkIn
import Derived.TacticsInMore
import Derived.LoopNIn
import Derived.LoopIn
import Derived.Shelf.Strings.Builder1
import Derived.Shelf.Strings.Builder2
import Derived.Shelf.Strings.BuilderF
import Derived.Shelf.Strings.BuilderK
import Derived.Shelf.Strings.Builder2Cap
import Derived.Shelf.Strconv.Itoa0
import Derived.Shelf.Strconv.Itoa1
import Derived.Shelf.LaysM
import Derived.Shelf.Strconv.Itoa2
import Derived.Shelf.Strings.Prefix
import Derived.Shelf.Bits.Mul64
import Derived.Shelf.Strings.Repeat
import Derived.Test.YtakcggldilbilaaGreatDoorProg
import Derived.Lib.Walk
import Derived.Lib.ItoaMem
import Derived.BigCall
import Derived.BigGuard
set_option linter.unusedVariables false
set_option linter.unusedSimpArgs false
set_option maxRecDepth 100000
set_option maxHeartbeats 2000000
namespace Go.Vd
open Go.Proofs
theorem gD' (r : List UInt8) (i : Nat) : r[i]?.getD 0 = r.getD i 0 := (List.getD_eq_getElem?_getD ..).symm
theorem isD_all {L : List UInt8} (h : ¬L = []) : isD L = L.all isDb := by
  rw [Bool.eq_iff_iff, isD_iff, List.all_eq_true]
  exact ⟨fun h' => h'.2, fun h' => ⟨h, h'⟩⟩
theorem isDb_no {b : UInt8} (h : b.toNat < 48 ∨ 57 < b.toNat) : isDb b = false := by
  rw [Bool.eq_false_iff]; intro h'; have := isDb_iff.1 h'; omega
theorem isDb_yes {b : UInt8} (h : 48 ≤ b.toNat ∧ b.toNat ≤ 57) : isDb b = true := isDb_iff.2 h
theorem good_gIs (L : List UInt8) (hL : L.length ≤ 1000000) : GoodP Tryz.prog gl0 112 [.str L] (.bool (std.tb fun _ => isD L)) := by
  refine fn_sound' (T := seatT) (G := noC) (X := noX) seatT_ok noC_ok noX_ok noI_ok mixed Tryz.func112 (.one) (fun A => [.str L]) (fun A => .bool (A.tb fun _ => isD L)) fun A hA => ?_
  cbv
  repeat' (first | with_reducible exact True.intro | with_reducible exact dr_ok hA (by kernel_rfl) | with_reducible refine And.intro ?_ ?_ | (intro hc; cbv))
  · subst hA; simp [-List.getD_eq_getElem?_getD, sS, strOf_lit, lstOf_lit inj_eB, lstOf_lit inj_eZ, lstOf_lit inj_eBs, lstOf_lit inj_eS] at *
    simp [hc, isD]
  refine ⟨⟨{i : Nat // i ≤ L.length ∧ (L.take i).all isDb = true}, fun b i => [(3, .int .i64 (i.1 : Nat))], fun b i => [], fun i => L.length - i.1, true⟩, ⟨⟨0, by omega, by simp⟩, ?_⟩, ?_⟩
  · cbv
    subst hA
    simp [-List.getD_eq_getElem?_getD, sS]
  · have hne : ¬L = [] := by subst hA; simpa [sS] using hc
    rintro ⟨i, hi, hz⟩
    clear hc
    cbv
    repeat' (first | with_reducible exact True.intro | with_reducible exact dr_ok hA (by kernel_rfl) | with_reducible refine And.intro ?_ ?_ | (intro hc; cbv))
    all_goals first
      | (fail_if_success (refine Exists.intro ?_ ?_)
         subst hA
         simp [-List.getD_eq_getElem?_getD, sS, gD'] at *
         done)
      | (fail_if_success (refine Exists.intro ?_ ?_)
         subst hA
         simp [-List.getD_eq_getElem?_getD, sS, gD'] at *
         first
           | omega
           | (constructor <;> omega)
           | (have hlt : i < L.length := by omega
              rw [isD_all hne, all_false hlt (isDb_no (by omega))]; done)
           | (rw [isD_all hne, List.all_eq_true]
              rw [List.take_of_length_le (by omega)] at hz
              exact hz)
           | trace_state)
      | (have hlt : i < L.length := by clear hz; subst hA; simp [sS] at *; omega
         have hx : isDb (L.getD i 0) = true := by
           clear hz
           subst hA
           simp [-List.getD_eq_getElem?_getD, sS, gD'] at *
           exact isDb_yes (by omega)
         refine ⟨⟨i + 1, by omega, by rw [all_take hlt, hz, hx]; rfl⟩, ?_, show L.length - (i + 1) < L.length - i by omega⟩
         cbv
         subst hA
         simp [sS]
         exact w64 (by omega))
      | trace_state
theorem good_rIs (L : List UInt8) (hL : L.length ≤ 1000000) : GoodP Tryz.prog gl0 116 [.str L] (.bool (std.tb fun _ => isD L)) := by
  refine fn_sound' (T := seatT) (G := noC) (X := noX) seatT_ok noC_ok noX_ok noI_ok mixed Tryz.func116 (.one) (fun A => [.str L]) (fun A => .bool (A.tb fun _ => isD L)) fun A hA => ?_
  cbv
  repeat' (first | with_reducible exact True.intro | with_reducible exact dr_ok hA (by kernel_rfl) | with_reducible refine And.intro ?_ ?_ | (intro hc; cbv))
  refine ⟨⟨{i : Nat // i ≤ L.length ∧ (L.take i).all isDb = true}, fun b i => [(3, .int .i64 (i.1 : Nat))], fun b i => [], fun i => L.length - i.1, true⟩, ⟨⟨0, by omega, by simp⟩, ?_⟩, ?_⟩
  · cbv
    subst hA
    simp [-List.getD_eq_getElem?_getD, sS]
  · rintro ⟨i, hi, hz⟩
    cbv
    repeat' (first | with_reducible exact True.intro | with_reducible exact dr_ok hA (by kernel_rfl) | with_reducible refine And.intro ?_ ?_ | (intro hc; cbv))
    all_goals first
      | (fail_if_success (refine Exists.intro ?_ ?_)
         subst hA
         simp [-List.getD_eq_getElem?_getD, sS, gD'] at *
         done)
      | (fail_if_success (refine Exists.intro ?_ ?_)
         subst hA
         simp [-List.getD_eq_getElem?_getD, sS, gD'] at *
         first
           | omega
           | (constructor <;> omega)
           | (have hlt : i < L.length := by omega
              have hne : ¬L = [] := fun e => by rw [e] at hlt; simp at hlt
              rw [isD_all hne, all_false hlt (isDb_no (by omega))]; done)
           | (rw [List.take_of_length_le (by omega)] at hz
              by_cases hne : L = []
              · subst hne; rfl
              · rw [isD_all hne, List.all_eq_true.2 hz]
                have := List.length_pos_iff.2 hne
                simp; omega)
           | trace_state)
      | (have hlt : i < L.length := by clear hz; subst hA; simp [sS] at *; omega
         have hx : isDb (L.getD i 0) = true := by
           clear hz
           subst hA
           simp [-List.getD_eq_getElem?_getD, sS, gD'] at *
           exact isDb_yes (by omega)
         refine ⟨⟨i + 1, by omega, by rw [all_take hlt, hz, hx]; rfl⟩, ?_, show L.length - (i + 1) < L.length - i by omega⟩
         cbv
         subst hA
         simp [sS]
         exact w64 (by omega))
      | trace_state
theorem good_gWeight (d : Nat) (t : Bool) (hd : d < 10) : GoodP Tryz.prog gl0 150 [.int .i64 (d : Nat), .bool t] (.int .i64 (std.ti fun _ => (lW d t : Int))) := by
  refine fn_sound' (T := seatT) (G := noC) (X := noX) seatT_ok noC_ok noX_ok noI_ok mixed Tryz.func150 (.one) (fun A => [.int .i64 (d : Nat), .bool t]) (fun A => .int .i64 (A.ti fun _ => (lW d t : Int))) fun A hA => ?_
  cbv
  repeat' (first | with_reducible exact True.intro | with_reducible exact dr_ok hA (by kernel_rfl) | with_reducible refine And.intro ?_ ?_ | (intro hc; cbv))
  all_goals (subst hA; simp [sS] at *)
  all_goals (subst_vars)
  · rfl
  · have e : lW d true + 9 = 2 * d := by (simp only [lW, if_true]; rw [if_pos (by omega)]; omega)
    rw [w64 (n := 2 * (d : Int)) (by omega), w64 (by omega)]
    show 2 * (d : Int) - 9 = ((lW d true : Nat) : Int)
    omega
  · have e : lW d true = 2 * d := by (simp only [lW, if_true]; rw [if_neg (by omega)])
    rw [w64 (by omega), e]
    rfl
def gErr (L : List UInt8) : Int := if L = [] then 2 else if 19 < L.length then 4 else if isD L = true then 0 else 3
def gVal (L : List UInt8) : Nat := if L = [] then 0 else if 19 < L.length then 0 else if isD L = true then dVal L else 0
theorem gE0 {L : List UInt8} (h : L = []) : gErr L = 2 ∧ gVal L = 0 := ⟨if_pos h, if_pos h⟩
theorem gE1 {L : List UInt8} (h : ¬L = []) (h1 : 19 < L.length) : gErr L = 4 ∧ gVal L = 0 := by
  unfold gErr gVal; rw [if_neg h, if_pos h1, if_neg h, if_pos h1]; exact ⟨rfl, rfl⟩
theorem gE2 {L : List UInt8} (h : ¬L = []) (h1 : ¬19 < L.length) (h2 : isD L = false) : gErr L = 3 ∧ gVal L = 0 := by
  unfold gErr gVal; rw [if_neg h, if_neg h1, h2, if_neg h, if_neg h1]; exact ⟨rfl, rfl⟩
theorem gE3 {L : List UInt8} (h1 : ¬19 < L.length) (h2 : isD L = true) : gErr L = 0 ∧ gVal L = dVal L := by
  have h := (isD_iff.1 h2).1
  unfold gErr gVal; rw [if_neg h, if_neg h1, if_pos h2, if_neg h, if_neg h1, if_pos h2]; exact ⟨rfl, rfl⟩
theorem dVal_bound {L : List UInt8} (h : isD L = true) (h1 : ¬19 < L.length) {i : Nat} (hi : i < L.length) : dVal (L.take i) < 1000000000000000000 := by
  have h2 := dVal_lt (L.take i) (fun b hb => (isD_iff.1 h).2 b (List.mem_of_mem_take hb))
  rw [List.length_take] at h2
  exact Nat.lt_of_lt_of_le h2 (Nat.le_trans (Nat.pow_le_pow_right (by omega : 0 < 10) (by omega : min i L.length ≤ 18)) (by decide))
theorem getD_dig {L : List UInt8} (h : isD L = true) {i : Nat} (hi : i < L.length) : 48 ≤ (L.getD i 0).toNat ∧ (L.getD i 0).toNat ≤ 57 := by
  apply isDb_iff.1
  apply (isD_iff.1 h).2
  rw [List.getD_eq_getElem?_getD, List.getElem?_eq_getElem hi]
  exact List.getElem_mem hi
theorem wU64' {n : Int} (h : 0 ≤ n ∧ n < 18446744073709551616) : IntKind.u64.wrap n = n := by rw [IntKind.wrap_u64]; omega
theorem wU8' {n : Int} (h : 0 ≤ n ∧ n < 256) : IntKind.u8.wrap n = n := by rw [IntKind.wrap_u8]; omega
theorem dVal_take {L : List UInt8} {i : Nat} (hi : i < L.length) : dVal (L.take (i + 1)) = 10 * dVal (L.take i) + dig (L.getD i 0) := by
  rw [← take_snoc (d := 0) hi, dVal_snoc]
noncomputable def c_gIs : Ct := fun A args => match args with
  | [.str L] => some (some (A.tp fun _ => L.length ≤ 1000000), .bool (A.tb fun _ => isD L))
  | _ => none
noncomputable def c_rIs : Ct := fun A args => match args with
  | [.str L] => some (some (A.tp fun _ => L.length ≤ 1000000), .bool (A.tb fun _ => isD L))
  | _ => none
noncomputable def gg1 : Ar → Pu := addC 112 c_gIs (addC 116 c_rIs (noC))
theorem gg1_ok : PuOk Tryz.prog gl0 (gg1 std) := by
  refine addC_ok (addC_ok (noC_ok) ⟨_, Tryz.func116, rfl, by decide⟩ ?_) ⟨_, Tryz.func112, rfl, by decide⟩ ?_
  · intro args p r h hp
    unfold c_rIs at h
    split at h <;> cases h
    exact good_rIs _ hp
  · intro args p r h hp
    unfold c_gIs at h
    split at h <;> cases h
    exact good_gIs _ hp
theorem good_gGet (L : List UInt8) : GoodP Tryz.prog gl0 136 [.str L] (.tup [.int .u64 (std.ti fun _ => (gVal L : Int)), .int .i64 (std.ti fun _ => gErr L)]) := by
  refine fn_sound' (T := seatT) (G := gg1) (X := noX) seatT_ok gg1_ok noX_ok noI_ok mixed Tryz.func136 (.one) (fun A => [.str L]) (fun A => .tup [.int .u64 (A.ti fun _ => (gVal L : Int)), .int .i64 (A.ti fun _ => gErr L)]) fun A hA => ?_
  cbv
  repeat' (first | with_reducible exact True.intro | with_reducible exact dr_ok hA (by kernel_rfl) | with_reducible refine And.intro ?_ ?_ | (intro hc; cbv))
  rotate_right
  · have hk : ¬19 < L.length ∧ isD L = true := by
      rename_i x1 x2
      subst hA
      simp [sS] at x2 hc
      exact ⟨by omega, hc⟩
    clear hc
    refine ⟨⟨{p : Nat × Nat // p.1 ≤ L.length ∧ p.2 = dVal (L.take p.1)}, fun b p => [(4, .int .u64 (p.1.2 : Nat)), (5, .int .i64 (p.1.1 : Nat))], fun b p => [], fun p => L.length - p.1.1, true⟩, ⟨⟨(0, 0), by omega, rfl⟩, ?_⟩, ?_⟩
    · cbv
      subst hA
      simp [-List.getD_eq_getElem?_getD, sS]
    · rintro ⟨⟨i, v⟩, hi, hv⟩
      simp only at hi hv
      cbv
      repeat' (first | with_reducible exact True.intro | with_reducible exact dr_ok hA (by kernel_rfl) | with_reducible refine And.intro ?_ ?_ | (intro hc; cbv))
      all_goals first
        | (fail_if_success (refine Exists.intro ?_ ?_)
           have hie : i = L.length := by (clear hv; subst hA; simp [sS] at *; omega)
           rw [hie, List.take_length] at hv
           have hg := gE3 hk.1 hk.2
           subst hA
           simp only [sS, Int.ofNat_eq_natCast]
           first
             | (rw [hg.1]; done)
             | (rw [hg.2, hv]; done))
        | (fail_if_success (refine Exists.intro ?_ ?_)
           clear hv
           subst hA
           simp [sS] at *
           omega)
        | (have hlt : i < L.length := by clear hv; subst hA; simp [sS] at *; omega
           have hb := dVal_bound hk.2 hk.1 hlt
           have hd := getD_dig hk.2 hlt
           obtain ⟨i', hi'⟩ : ∃ i', i' = i + 1 := ⟨_, rfl⟩
           obtain ⟨v', hv'⟩ : ∃ v', v' = dVal (L.take i') := ⟨_, rfl⟩
           have hvn : v' = 10 * v + ((L.getD i 0).toNat - 48) := by rw [hv', hi', dVal_take hlt, hv]; rfl
           rw [← hv] at hb
           refine ⟨⟨(i', v'), by omega, hv'⟩, ?_, show L.length - i' < L.length - i by omega⟩
           cbv
           subst hA
           simp [-List.getD_eq_getElem?_getD, sS, gD']
           refine ⟨?_, (w64 (by omega)).trans (by omega)⟩
           rw [wU8' (by omega), wU64' (n := (v : Int) * 10) (by omega), wU64' (n := ((L.getD i 0).toNat : Int) - 48) (by omega), wU64' (by omega)]
           omega)
        | trace_state
  all_goals (subst hA; simp [sS] at *)
  all_goals first
    | omega
    | (have h0 : L = [] := by assumption
       have hg := gE0 h0
       first | (rw [hg.1]; done) | (rw [hg.2]; rfl))
    | (have hg := gE1 (L := L) (by assumption) (by omega)
       first | (rw [hg.1]; done) | (rw [hg.2]; rfl))
    | (have hg := gE2 (L := L) (by assumption) (by omega) hc
       first | (rw [hg.1]; done) | (rw [hg.2]; rfl))
    | trace_state
theorem rstep {v b : Nat} (hv : v < 1000000000000000000) (hb : 48 ≤ b ∧ b ≤ 57) : IntKind.u64.wrap (IntKind.u64.wrap (IntKind.u64.wrap (10 * (v : Int)) + IntKind.u64.wrap (b : Int)) - 48) = ((10 * v + (b - 48) : Nat) : Int) := by
  rw [wU64' (n := 10 * (v : Int)) (by omega), wU64' (n := (b : Int)) (by omega), wU64' (n := 10 * (v : Int) + (b : Int)) (by omega), wU64' (by omega)]
  omega
theorem good_rGet (L : List UInt8) : GoodP Tryz.prog gl0 100 [.str L] (.tup [.int .u64 (std.ti fun _ => (gVal L : Int)), .int .i64 (std.ti fun _ => gErr L)]) := by
  refine fn_sound' (T := seatT) (G := gg1) (X := noX) seatT_ok gg1_ok noX_ok noI_ok mixed Tryz.func100 (.one) (fun A => [.str L]) (fun A => .tup [.int .u64 (A.ti fun _ => (gVal L : Int)), .int .i64 (A.ti fun _ => gErr L)]) fun A hA => ?_
  cbv
  repeat' (first | with_reducible exact True.intro | with_reducible exact dr_ok hA (by kernel_rfl) | with_reducible refine And.intro ?_ ?_ | (intro hc; cbv))
  rotate_right
  · have hk : ¬19 < L.length ∧ isD L = true := by
      rename_i x1 x2
      subst hA
      simp [sS] at x2 hc
      exact ⟨by omega, hc⟩
    clear hc
    refine ⟨⟨{p : Nat × Nat // p.1 ≤ L.length ∧ p.2 = dVal (L.take p.1)}, fun b p => [(4, .int .u64 (p.1.2 : Nat)), (5, .int .i64 (p.1.1 : Nat))], fun b p => [], fun p => L.length - p.1.1, true⟩, ⟨⟨(0, 0), by omega, rfl⟩, ?_⟩, ?_⟩
    · cbv
      subst hA
      simp [-List.getD_eq_getElem?_getD, sS]
    · rintro ⟨⟨i, v⟩, hi, hv⟩
      simp only at hi hv
      cbv
      repeat' (first | with_reducible exact True.intro | with_reducible exact dr_ok hA (by kernel_rfl) | with_reducible refine And.intro ?_ ?_ | (intro hc; cbv))
      all_goals first
        | (fail_if_success (refine Exists.intro ?_ ?_)
           have hie : i = L.length := by (clear hv; subst hA; simp [sS] at *; omega)
           rw [hie, List.take_length] at hv
           have hg := gE3 hk.1 hk.2
           subst hA
           simp only [sS, Int.ofNat_eq_natCast]
           first
             | (rw [hg.1]; done)
             | (rw [hg.2, hv]; done))
        | (fail_if_success (refine Exists.intro ?_ ?_)
           clear hv
           subst hA
           simp [sS] at *
           omega)
        | (have hlt : i < L.length := by clear hv; subst hA; simp [sS] at *; omega
           have hb := dVal_bound hk.2 hk.1 hlt
           have hd := getD_dig hk.2 hlt
           obtain ⟨i', hi'⟩ : ∃ i', i' = i + 1 := ⟨_, rfl⟩
           obtain ⟨v', hv'⟩ : ∃ v', v' = dVal (L.take i') := ⟨_, rfl⟩
           have hvn : v' = 10 * v + ((L.getD i 0).toNat - 48) := by rw [hv', hi', dVal_take hlt, hv]; rfl
           rw [← hv] at hb
           refine ⟨⟨(i', v'), by omega, hv'⟩, ?_, show L.length - i' < L.length - i by omega⟩
           cbv
           subst hA
           simp [-List.getD_eq_getElem?_getD, sS, gD']
           refine ⟨?_, (w64 (by omega)).trans (by omega)⟩
           rw [hvn]
           exact rstep hb hd)
        | trace_state
  all_goals (subst hA; simp [sS] at *)
  all_goals first
    | omega
    | (have h0 : L = [] := by assumption
       have hg := gE0 h0
       first | (rw [hg.1]; done) | (rw [hg.2]; rfl))
    | (have hg := gE1 (L := L) (by assumption) (by omega)
       first | (rw [hg.1]; done) | (rw [hg.2]; rfl))
    | (have hg := gE2 (L := L) (by assumption) (by omega) hc
       first | (rw [hg.1]; done) | (rw [hg.2]; rfl))
    | trace_state
end Go.Vd

set_option linter.unusedVariables false
set_option linter.unusedSimpArgs false
namespace Go.Proofs
open Go.RowKit Go.Shelf
attribute [local go_sem] Oper.semAt_some

theorem fe_take {L : List UInt8} {k : Nat} (h : k < L.length) : L.reverse.take k ++ [L.getD (L.length - 1 - k) 0] = L.reverse.take (k + 1) := by
  rw [← Vd.rev_getD (by omega), show L.length - 1 - (L.length - 1 - k) = k by omega]
  exact Vd.take_snoc (by rw [List.length_reverse]; exact h)

/-- The box is as it was. -/
def KBs (Bs : Nat) (A B : World) : Prop := ∀ v, A.cell? ⟨Bs, 0, none⟩ = some v → B.cell? ⟨Bs, 0, none⟩ = some v
theorem ba_get {L : List UInt8} {i : Nat} (h : i < (ByteArray.mk L.toArray).size) : (ByteArray.mk L.toArray)[i]'h = L.getD i 0 := by
  have h1 : i < L.length := by simpa [ByteArray.size] using h
  rw [List.getD_eq_getElem?_getD, List.getElem?_eq_getElem h1]
  rfl

set_option maxRecDepth 100000 in
set_option maxHeartbeats 2000000 in
theorem fromEnd1_in (F : Fence) (n : Nat) (h76 : F.fn 167) (hro : F.round = none) (hn : 1 ≤ n) (l Bs : Nat) (L : List UInt8) (hL : L.length ≤ 1000000) (J Jx : List UInt8 → World → Prop)
    (hY : ∀ pre x W, J pre W → pre.length < L.length → YieldAt F (n - 1) Tryz.prog l #[.int .u8 (x.toNat : Int)] W fun e W' =>
      (e = .returned (.bool true) ∧ J (pre ++ [x]) W' ∧ KBs Bs W W') ∨ (e = .returned (.bool false) ∧ Jx (pre ++ [x]) W'))
    (W : World) (hBs : W.cell? ⟨Bs, 0, none⟩ = some (.string ⟨L.toArray⟩)) (h0 : J [] W) :
    CallsIn F n Tryz.prog 167 #[.func (.yield l) #[] #[], .pointer (some ⟨Bs, 0, none⟩)] W fun e W' => (∃ v, e = .returned v) ∧
      ((∃ ys, ys = L.reverse ∧ J ys W') ∨ (∃ pre, pre <+: L.reverse ∧ Jx pre W')) := by
  refine callsIn_of_wp Tryz.func167 rfl h76 ?_ hro
  simp only [Tryz.ntmps167, List.size_toArray, List.length_cons, List.length_nil, Nat.reduceAdd, Nat.reduceSub, Array.replicate_succ, Array.replicate_zero, List.push_toArray, List.append_toArray, List.nil_append, List.cons_append]
  gi_wp2
  gi_loopw [3] (fun i wr => ∃ k : Nat, k ≤ L.length ∧ i = .int .i64 ((L.length : Int) - 1 - k) ∧ J (L.reverse.take k) wr ∧ wr.cell? ⟨Bs, 0, none⟩ = some (.string ⟨L.toArray⟩))
    (fun i _ => (intOf i + 1).toNat)
  case atStart => exact ⟨0, Nat.zero_le _, by simp, h0, hBs⟩
  case round =>
    obtain ⟨k, hk, rfl, hJs, hs⟩ := hrel
    by_cases hlt : k < L.length
    · have hx : L.length - 1 - k < (ByteArray.mk L.toArray).size := by simp [ByteArray.size]; omega
      obtain ⟨fn, tmps, assign, body, hy, hR⟩ := hY _ ((ByteArray.mk L.toArray)[L.length - 1 - k]'hx) wr hJs (by rw [List.length_take]; simp; omega)
      have h1 : (0 : Int) ≤ (L.length : Int) - 1 - k := by omega
      have ht : L.reverse.take k ++ [(ByteArray.mk L.toArray)[L.length - 1 - k]'hx] = L.reverse.take (k + 1) := by rw [ba_get]; exact fe_take hlt
      gi_wp2
      refine hR.mono ?_
      rintro e W3 (⟨rfl, hJ3, hk3⟩ | ⟨rfl, hJx3⟩)
      · rw [ht] at hJ3
        gi_wp2
        go_roundw
        case rel => exact ⟨k + 1, by omega, by first | rfl | (congr 1; omega) | (simp; omega), hJ3, hk3 _ hs⟩
        case measure => simp [intOf]; omega
      · rw [ht] at hJx3
        gi_wp2
        refine bodyPost_ret (results_none rfl _ _ _) rfl ?_
        exact ⟨⟨_, rfl⟩, .inr ⟨_, ⟨L.reverse.drop (k + 1), List.take_append_drop _ _⟩, hJx3⟩⟩
    · obtain rfl : k = L.length := by omega
      gi_wp2
      have hJf : J L.reverse wr := by rw [List.take_of_length_le (by simp)] at hJs; exact hJs
      go_end0
      exact ⟨⟨_, rfl⟩, .inl ⟨_, rfl, hJf⟩⟩

/-- A new box: what it holds; it stays so beside a newer one. -/
theorem box_new (W : World) (v : Value) (t : TypeId) : (W.alloc (.cells #[v] t)).cell? ⟨W.heap.size, 0, none⟩ = some v ∧ (W.alloc (.cells #[v] t)).frozen? ⟨W.heap.size, 0, none⟩ = false := ⟨by simp, by simp⟩
theorem box_old {W : World} {a : Addr} {v : Value} (o : Obj) (h : W.cell? a = some v) : (W.alloc o).cell? a = some v := cell_kept h (World.grownBy_alloc W o none) (fun r e => by cases e)
theorem box_soft {W : World} {a : Addr} {v : Value} (o : Obj) (h : W.cell? a = some v) (hf : W.frozen? a = false) : (W.alloc o).frozen? a = false := (frozen_kept h (World.grownBy_alloc W o none) (fun r e => by cases e)).trans hf

set_option maxHeartbeats 1000000 in
theorem fromEnd_in (F : Fence) (n : Nat) (h58 : F.fn 149) (hro : F.round = none) (s : ByteArray) (w : World) :
    CallsIn F n Tryz.prog 149 #[.string s] w fun e w' => e = .returned (.func (.func 167) #[] #[.pointer (some ⟨w.heap.size, 0, none⟩)]) ∧ w' = w.alloc (.cells #[.string s] 9) := by
  refine callsIn_of_wp Tryz.func149 rfl h58 ?_ hro
  simp only [Tryz.ntmps149, List.size_toArray, List.length_cons, List.length_nil, Nat.reduceAdd, Nat.reduceSub, Array.replicate_succ, Array.replicate_zero, List.push_toArray, List.append_toArray, List.nil_append, List.cons_append]
  gi_wp2
  go_ret
  exact ⟨rfl, rfl⟩

theorem fromEnd_stops (F : Fence) (n : Nat) (h76 : F.fn 167) (hro : F.round = none) (hn : 1 ≤ n) (Bs : Nat) (L : List UInt8) (hL : L.length ≤ 1000000) (w : World) (hBs : Bs < w.heap.size) (hc : w.cell? ⟨Bs, 0, none⟩ = some (.string ⟨L.toArray⟩)) :
    SeqStopsK F n Tryz.prog 167 #[.pointer (some ⟨Bs, 0, none⟩)] (fun x : UInt8 => #[Value.int .u8 (x.toNat : Int)]) (KBs Bs) (fun ys => ys = L.reverse) (fun pre => pre <+: L.reverse) L.length w := fun l J Jx W hW _ _ hY h0 => by
  have hc' := (hW.cell (p := ⟨Bs, 0, none⟩) hBs).trans hc
  exact fromEnd1_in F n h76 hro hn l Bs L hL J Jx hY W hc' h0

set_option maxHeartbeats 1000000 in
theorem weight_in (F : Fence) (n : Nat) (h59 : F.fn 150) (hro : F.round = none) (d : Nat) (hd : d < 256) (t : Bool) (w : World) :
    CallsIn F n Tryz.prog 150 #[.int .i64 (d : Int), .bool t] w fun e w' => e = .returned (.int .i64 (Vd.lW d t : Int)) ∧ w' = w := by
  refine callsIn_of_wp Tryz.func150 rfl h59 ?_ hro
  simp only [Tryz.ntmps150, List.size_toArray, List.length_cons, List.length_nil, Nat.reduceAdd, Nat.reduceSub, Array.replicate_succ, Array.replicate_zero, List.push_toArray, List.append_toArray, List.nil_append, List.cons_append]
  have e1 : Vd.lW d false = d := rfl
  cases t
  · gi_wp2
    go_ret
    exact ⟨by rw [e1]; rfl, rfl⟩
  · by_cases h : 4 < d
    · have e2 : ((Vd.lW d true : Nat) : Int) = 2 * (d : Int) - 9 := by
        have e3 : Vd.lW d true + 9 = 2 * d := by (simp only [Vd.lW, if_true]; rw [if_pos (by omega)]; omega)
        omega
      gi_wp2
      go_ret
      exact ⟨by rw [e2]; rfl, rfl⟩
    · have e2 : ((Vd.lW d true : Nat) : Int) = 2 * (d : Int) := by
        have e3 : Vd.lW d true = 2 * d := by (simp only [Vd.lW, if_true]; rw [if_neg (by omega)])
        omega
      gi_wp2
      go_ret
      exact ⟨by rw [e2]; rfl, rfl⟩

/-- The weight of whatever byte. -/
def dig8 (b : UInt8) : Nat := (b.toNat + 208) % 256
def lSum8 : List UInt8 → Bool → Nat
  | [], _ => 0
  | b :: R, t => Vd.lW (dig8 b) t + lSum8 R (!t)
theorem lSum8_snoc : ∀ (R : List UInt8) (b : UInt8) (t : Bool), lSum8 (R ++ [b]) t = lSum8 R t + Vd.lW (dig8 b) (t ^^ Vd.odd R.length)
  | [], b, t => by simp [lSum8, Vd.odd]
  | c :: R, b, t => by
    simp only [List.cons_append, lSum8, lSum8_snoc R b, List.length_cons, Vd.odd]
    cases t <;> simp <;> omega
theorem lW_le (d : Nat) (t : Bool) (h : d < 256) : Vd.lW d t ≤ 510 := by
  unfold Vd.lW; cases t <;> simp <;> (try split) <;> omega
theorem lSum8_le : ∀ (R : List UInt8) (t : Bool), lSum8 R t ≤ 510 * R.length
  | [], _ => by simp [lSum8]
  | b :: R, t => by
    have h1 := lSum8_le R (!t)
    have h2 := lW_le (dig8 b) t (Nat.mod_lt _ (by omega))
    simp only [lSum8, List.length_cons]
    omega
theorem lSum8_eq : ∀ (R : List UInt8) (t : Bool), (∀ b ∈ R, Vd.isDb b = true) → lSum8 R t = Vd.lSum R t
  | [], _, _ => rfl
  | b :: R, t, h => by
    have hb := Vd.isDb_iff.1 (h b (by simp))
    have e : dig8 b = Vd.dig b := by unfold dig8 Vd.dig; omega
    simp only [lSum8, Vd.lSum, e, lSum8_eq R (!t) fun c hc => h c (by simp [hc])]

theorem sum_end {t : Bool} {w W : World} {pre : List UInt8} {x : UInt8} {v0 v1 u0 u1 : Value} (hc0 : W.cell? ⟨w.heap.size, 0, none⟩ = some u0) (hf0 : W.frozen? ⟨w.heap.size, 0, none⟩ = false) (hc1 : W.cell? ⟨w.heap.size + 1, 0, none⟩ = some u1) (hf1 : W.frozen? ⟨w.heap.size + 1, 0, none⟩ = false)
    (hB : Below w.heap.size w W) (W' : World) (hW' : W' = ((W.setCell ⟨w.heap.size + 1, 0, none⟩ v1).setCell ⟨w.heap.size, 0, none⟩ v0).drew) :
    KeepsOthers W W' ∧ KBs (w.heap.size + 1 + 1) W W' ∧ ((W'.cell? ⟨w.heap.size, 0, none⟩ = some v0 ∧ W'.frozen? ⟨w.heap.size, 0, none⟩ = false) ∧ (W'.cell? ⟨w.heap.size + 1, 0, none⟩ = some v1 ∧ W'.frozen? ⟨w.heap.size + 1, 0, none⟩ = false)) ∧ Below w.heap.size w W' := by
  subst hW'
  have hne : (⟨w.heap.size, 0, none⟩ : Addr) ≠ ⟨w.heap.size + 1, 0, none⟩ := fun e => by injection e; omega
  have hn0 : (⟨w.heap.size, 0, none⟩ : Addr) ≠ ⟨w.heap.size + 1 + 1, 0, none⟩ := fun e => by injection e; omega
  have hn1 : (⟨w.heap.size + 1, 0, none⟩ : Addr) ≠ ⟨w.heap.size + 1 + 1, 0, none⟩ := fun e => by injection e; omega
  have hk : (W.setCell ⟨w.heap.size + 1, 0, none⟩ v1).cell? ⟨w.heap.size, 0, none⟩ = some u0 := by rw [World.cell?_setCell_other _ _ _ _ (Ne.symm hne)]; exact hc0
  refine ⟨((KeepsOthers.setCell _ _ _).trans (KeepsOthers.setCell _ _ _)).trans (KeepsOthers.drew _), fun v hv => ?_, ⟨⟨?_, ?_⟩, ?_, ?_⟩, ?_⟩
  · rw [World.cell?_drew, World.cell?_setCell_other _ _ _ _ hn0, World.cell?_setCell_other _ _ _ _ hn1]; exact hv
  · rw [World.cell?_drew]; exact World.cell?_setCell_same _ _ _ hk
  · rw [frozen_drew_own, World.frozen?_setCell, World.frozen?_setCell]; exact hf0
  · rw [World.cell?_drew, World.cell?_setCell_other _ _ _ _ hne]; exact World.cell?_setCell_same _ _ _ hc1
  · rw [frozen_drew_own, World.frozen?_setCell, World.frozen?_setCell]; exact hf1
  · exact ((hB.setCell (p := ⟨w.heap.size + 1, 0, none⟩) (by simp) _).setCell (p := ⟨w.heap.size, 0, none⟩) (Nat.le_refl _) _).drew

set_option maxRecDepth 100000 in
set_option maxHeartbeats 4000000 in
theorem sum_in (F : Fence) (n : Nat) (h38 : F.fn 113) (h58 : F.fn 149) (h76 : F.fn 167) (h59 : F.fn 150) (hro : F.round = none) (hn : 3 ≤ n) (L : List UInt8) (hL : L.length ≤ 1000000) (t : Bool) (w : World) :
    CallsIn F n Tryz.prog 113 #[.string ⟨L.toArray⟩, .bool t] w fun e w' => e = .returned (.int .i64 (lSum8 L.reverse t : Int)) ∧ Below w.heap.size w w' := by
  have h1 : 1 ≤ n := by omega
  refine callsIn_of_wp_marks Tryz.func113 rfl h38 ?_ hro
  simp only [Tryz.ntmps113, List.size_toArray, List.length_cons, List.length_nil, Nat.reduceAdd, Nat.reduceSub, Array.replicate_succ, Array.replicate_zero, List.push_toArray, List.append_toArray, List.nil_append, List.cons_append]
  gi_wp2_with (gi_at_call 149; refine (fromEnd_in F (n - 1) h58 hro _ _).mono ?_; rintro e w' ⟨rfl, rfl⟩)
  have c0 := box_new w (.bool t) 4
  have c1 := box_new (w.alloc (.cells #[.bool t] 4)) (.int .i64 0) 3
  have c2 := box_new ((w.alloc (.cells #[.bool t] 4)).alloc (.cells #[.int .i64 0] 3)) (.string ⟨L.toArray⟩) 9
  simp only [World.size_alloc] at c1 c2
  have hB0 : Below w.heap.size w (((w.alloc (.cells #[.bool t] 4)).alloc (.cells #[.int .i64 0] 3)).alloc (.cells #[.string ⟨L.toArray⟩] 9)) := (((Below.refl _ w).alloc (Nat.le_refl _) _).alloc (by simp) _).alloc (by simp; omega) _
  refine wpIn_rangeFunc_ownF hro h1 (gf := 167) (lb := #[.pointer (some ⟨w.heap.size + 1 + 1, 0, none⟩)]) rfl h76 (enters_of Tryz.func167 (by kernel_rfl) rfl)
    (fromEnd_stops F (n - 1) h76 hro (by omega) (w.heap.size + 1 + 1) L hL _ (by simp) c2.1) (fun h k v hv => k v (h v hv)) (fun W l o o' _ h0 hc _ v hv => cell_kept hv (grownBy_putObj' _ l o') (fun r e => by cases e; exact ⟨_, h0, hc⟩)) (Below.refl _ _) (fun _ => rfl)
    (fun pre W => ((W.cell? ⟨w.heap.size, 0, none⟩ = some (.bool (t ^^ Vd.odd pre.length)) ∧ W.frozen? ⟨w.heap.size, 0, none⟩ = false) ∧ (W.cell? ⟨w.heap.size + 1, 0, none⟩ = some (.int .i64 (lSum8 pre t : Int)) ∧ W.frozen? ⟨w.heap.size + 1, 0, none⟩ = false)) ∧ Below w.heap.size w W)
    (fun _ _ _ => False)
    (OwnFrom.and (Own.from (fun s A B row hs hg hr => ⟨⟨cell_kept hs.1.1 hg hr, (frozen_kept hs.1.1 hg hr).trans hs.1.2⟩, cell_kept hs.2.1 hg hr, (frozen_kept hs.2.1 hg hr).trans hs.2.2⟩) _) (ownFrom_below (Nat.le_refl _) (by simp; omega)))
    (fun _ _ _ _ _ hs _ _ => hs)
    ⟨⟨⟨by rw [show (t ^^ Vd.odd ([] : List UInt8).length) = t by simp [Vd.odd]]; exact box_old _ (box_old _ c0.1), box_soft _ (box_old _ c0.1) (box_soft _ c0.1 c0.2)⟩, box_old _ c1.1, box_soft _ c1.1 c1.2⟩, hB0⟩
    (fun x => { tmps := #[.string ⟨L.toArray⟩, .bool t, undef, .pointer (some ⟨w.heap.size, 0, none⟩), .int .i64 0, .pointer (some ⟨w.heap.size + 1, 0, none⟩), .int .u8 (x.toNat : Int), .string ⟨L.toArray⟩, .func (.func 167) #[] #[.pointer (some ⟨w.heap.size + 1 + 1, 0, none⟩)], .int .u8 (x.toNat : Int), undef, undef, undef, undef, undef, undef, undef, undef, undef, undef], defers := [] }) ?assign ?body ?done ?stop
  case assign =>
    intro l x W K hK
    gi_wp2
    exact hK
  case body =>
    rintro l pre x W ⟨⟨⟨hc0, hf0⟩, hc1, hf1⟩, hB⟩ hlen
    have hd : 1 ≤ n - 1 - 1 := by omega
    have hmx : Tryz.prog.follows .mixedOrders = true := by kernel_rfl
    have hle := lSum8_le pre t
    have hd8 : dig8 x < 256 := Nat.mod_lt _ (by omega)
    have hlw := lW_le (dig8 x) (t ^^ Vd.odd pre.length) hd8
    have hsum : wrap64 ((lSum8 pre t : Int) + (Vd.lW (dig8 x) (t ^^ Vd.odd pre.length) : Int)) = (lSum8 (pre ++ [x]) t : Int) := by
      rw [lSum8_snoc]
      unfold wrap64
      omega
    have hodd : (!(t ^^ Vd.odd pre.length)) = (t ^^ Vd.odd (pre ++ [x]).length) := by
      rw [List.length_append, List.length_singleton, Vd.odd]
      cases t <;> simp
    have hw8 : IntKind.i64.wrap (IntKind.u8.wrap ((x.toNat : Int) - 48)) = (dig8 x : Int) := by
      have hx := x.toNat_lt
      rw [IntKind.wrap_u8, IntKind.wrap_i64]
      unfold dig8
      omega
    gi_wp2
    gi_region_with_o (gi_at_call 150; refine (CallsIn.inRound l (weight_in F _ h59 hro (dig8 x) hd8 _ _)).mono ?_; rintro e w' ⟨rfl, rfl⟩)
    all_goals gi_wp2
    all_goals (try go_bits)
    all_goals (have he : ((lSum8 pre t : Int) + (Vd.lW (dig8 x) (t ^^ Vd.odd pre.length) : Int)) = (lSum8 (pre ++ [x]) t : Int) := by rw [lSum8_snoc]; omega)
    all_goals (have hbt : (t ^^ Vd.odd (pre.length + 1)) = (t ^^ Vd.odd (pre ++ [x]).length) := by simp)
    all_goals (try rw [hsum])
    all_goals (try rw [he])
    all_goals (try rw [hodd])
    all_goals (try rw [hbt])
    all_goals (exact sum_end (t := t) (pre := pre) (x := x) hc0 hf0 hc1 hf1 hB _ rfl)
  case done =>
    rintro D ys W hD rfl ⟨⟨_, hc1, _⟩, hB⟩ hK
    gi_wp2
    refine ⟨by simp, .inl ⟨_, _, rfl, run_takeDeferred hK, ?_⟩⟩
    exact ⟨_, results_tmp rfl _ _ _, rfl, hB.trans (belowK_b (w := w) (Nat.le_refl _) W D _ _ (by simp at hD; omega) hK rfl rfl)⟩
  case stop =>
    rintro D c pre W _ _ h _
    exact h.elim
end Go.Proofs

set_option linter.unusedVariables false
set_option linter.unusedSimpArgs false
set_option maxRecDepth 100000
set_option maxHeartbeats 2000000
namespace Go.Vd
open Go.Proofs
theorem good_gSum (L : List UInt8) (t : Bool) (hp : L.length ≤ 1000000 ∧ isD L = true) : GoodP Tryz.prog gl0 113 [.str L, .bool t] (.int .i64 (std.ti fun _ => (lSum L.reverse t : Int))) := by
  intro w ρ rw N vs hfr hrw hg hargs
  match vs, hargs with
  | [v1, v2], ⟨r1, r2, _⟩ =>
    generalize hs1 : SV.str L = s1 at r1
    generalize hs2 : SV.bool t = s2 at r2
    cases r1 with
    | str s =>
      cases r2 with
      | bool b =>
        cases hs1
        cases hs2
        have h0 := callsIn_wide.1 (sum_in Fence.wide 3 trivial trivial trivial trivial rfl (by omega) s.data.toList hp.1 t w)
        have e0 : (⟨s.data.toList.toArray⟩ : ByteArray) = s := by cases s; simp
        rw [e0] at h0
        refine h0.mono fun e w' hq => ?_
        obtain ⟨rfl, hb⟩ := hq
        refine ⟨_, rfl, Ext.of_below hb, fun key _ => ?_⟩
        have e1 : lSum8 s.data.toList.reverse t = lSum s.data.toList.reverse t := lSum8_eq _ _ (fun b hb => (isD_iff.1 hp.2).2 b (by simpa using hb))
        rw [e1]
        exact Rel.int _ _
      | _ => cases hs2
    | _ => cases hs1
noncomputable def c_gSum : Ct := fun A args => match args with
  | [.str L, .bool t] => some (some (A.tp fun _ => L.length ≤ 1000000 ∧ isD L = true), .int .i64 (A.ti fun _ => (lSum L.reverse t : Int)))
  | _ => none
noncomputable def gg2 : Ar → Pu := addC 113 c_gSum (gg1)
theorem gg2_ok : PuOk Tryz.prog gl0 (gg2 std) := by
  refine addC_ok (gg1_ok) ⟨_, Tryz.func113, rfl, by decide⟩ ?_
  · intro args p r h hp
    unfold c_gSum at h
    split at h <;> cases h
    exact good_gSum _ _ hp
theorem tm10 (n : Nat) : ((n : Int).tmod 10 == 0) = decide (n % 10 = 0) := by
  rw [Bool.eq_iff_iff, beq_iff_eq, decide_eq_true_eq, Int.tmod_eq_emod_of_nonneg (by omega)]
  omega
theorem good_gFine (L : List UInt8) (hL : L.length ≤ 100000) : GoodP Tryz.prog gl0 61 [.str L] (.bool (std.tb fun _ => lFine L)) := by
  refine fn_sound' (T := seatT) (G := gg2) (X := noX) seatT_ok gg2_ok noX_ok noI_ok mixed Tryz.func61 (.one) (fun A => [.str L]) (fun A => .bool (A.tb fun _ => lFine L)) fun A hA => ?_
  cbv
  repeat' (first | with_reducible exact True.intro | with_reducible exact dr_ok hA (by kernel_rfl) | with_reducible refine And.intro ?_ ?_ | (intro hc; cbv))
  all_goals (subst hA; simp [sS, lFine] at *)
  all_goals first
    | omega
    | exact fun h => ⟨h, by omega, h⟩
    | rw [tm10]
    | trace_state
theorem isD_bound {L : List UInt8} (h : isD L = true) : lSum L.reverse false ≤ 510 * L.length := by
  have h1 := lSum8_le L.reverse false
  rw [lSum8_eq _ _ (fun b hb => (isD_iff.1 h).2 b (by simpa using hb)), List.length_reverse] at h1
  exact h1
theorem rf_step {L : List UInt8} {i : Nat} (hi : i < L.length) : lSum (L.drop i).reverse false = lSum (L.drop (i + 1)).reverse false + lW (dig (L.getD i 0)) (odd (L.length - i - 1)) := by
  have e : L.drop i = L.getD i 0 :: L.drop (i + 1) := by
    rw [List.getD_eq_getElem?_getD, List.getElem?_eq_getElem hi]
    exact List.drop_eq_getElem_cons hi
  rw [e, List.reverse_cons, lSum_snoc, List.length_reverse, List.length_drop, Bool.false_xor, show L.length - (i + 1) = L.length - i - 1 by omega]
theorem lW_0 (b : Nat) : lW b false = b := rfl
theorem lW_1 {b : Nat} (h : b ≤ 4) : lW b true = 2 * b := by simp only [lW, if_true]; rw [if_neg (by omega)]
theorem lW_2 {b : Nat} (h : 4 < b) : lW b true = 2 * b - 9 := by simp only [lW, if_true]; rw [if_pos h]
theorem odd_t {n : Nat} (h : n % 2 = 1) : odd n = true := by rw [odd_mod, h]; rfl
theorem odd_f {n : Nat} (h : n % 2 = 0) : odd n = false := by rw [odd_mod, h]; rfl
theorem par {len i : Nat} (hlt : i < len) (hL : len ≤ 100000) : ((IntKind.i64.wrap ((len : Int) - i)).tmod 2 = 0 → odd (len - i - 1) = true) ∧ (¬(IntKind.i64.wrap ((len : Int) - i)).tmod 2 = 0 → odd (len - i - 1) = false) := by
  rw [w64 (by omega), Int.tmod_eq_emod_of_nonneg (by omega)]
  exact ⟨fun h => odd_t (by omega), fun h => odd_f (by omega)⟩
theorem dw {b : Nat} (h : 48 ≤ b ∧ b ≤ 57) : IntKind.i64.wrap (IntKind.i64.wrap (b : Int) - 48) = ((b - 48 : Nat) : Int) := by
  rw [w64 (n := (b : Int)) (by omega), w64 (by omega)]
  omega
theorem fin_0 {b n n' len i i' : Nat} (hd : 48 ≤ b ∧ b ≤ 57) (hlt : i < len) (hL : len ≤ 100000) (hi' : i' = i + 1) (hn' : n' = n + lW (b - 48) (odd (len - i - 1))) (hb : n' ≤ 510 * len) (hc : ¬(IntKind.i64.wrap ((len : Int) - i)).tmod 2 = 0) :
    IntKind.i64.wrap ((n : Int) + IntKind.i64.wrap (IntKind.i64.wrap (b : Int) - 48)) = (n' : Int) ∧ IntKind.i64.wrap ((i : Int) + 1) = (i' : Int) := by
  rw [(par hlt hL).2 hc, lW_0] at hn'
  rw [dw hd, w64 (by omega), w64 (by omega)]
  omega
theorem fin_1 {b n n' len i i' : Nat} (hd : 48 ≤ b ∧ b ≤ 57) (hlt : i < len) (hL : len ≤ 100000) (hi' : i' = i + 1) (hn' : n' = n + lW (b - 48) (odd (len - i - 1))) (hb : n' ≤ 510 * len) (c2 : (IntKind.i64.wrap ((len : Int) - i)).tmod 2 = 0) (hc : IntKind.i64.wrap (2 * IntKind.i64.wrap (IntKind.i64.wrap (b : Int) - 48)) ≤ 9) :
    IntKind.i64.wrap ((n : Int) + IntKind.i64.wrap (2 * IntKind.i64.wrap (IntKind.i64.wrap (b : Int) - 48))) = (n' : Int) ∧ IntKind.i64.wrap ((i : Int) + 1) = (i' : Int) := by
  have e : IntKind.i64.wrap (2 * ((b - 48 : Nat) : Int)) = ((2 * (b - 48) : Nat) : Int) := by rw [w64 (by omega)]; omega
  rw [dw hd, e] at hc
  rw [(par hlt hL).1 c2, lW_1 (by omega)] at hn'
  rw [dw hd, e, w64 (by omega), w64 (by omega)]
  omega
theorem fin_2 {b n n' len i i' : Nat} (hd : 48 ≤ b ∧ b ≤ 57) (hlt : i < len) (hL : len ≤ 100000) (hi' : i' = i + 1) (hn' : n' = n + lW (b - 48) (odd (len - i - 1))) (hb : n' ≤ 510 * len) (c2 : (IntKind.i64.wrap ((len : Int) - i)).tmod 2 = 0) (hc : 9 < IntKind.i64.wrap (2 * IntKind.i64.wrap (IntKind.i64.wrap (b : Int) - 48))) :
    IntKind.i64.wrap ((n : Int) + IntKind.i64.wrap (IntKind.i64.wrap (2 * IntKind.i64.wrap (IntKind.i64.wrap (b : Int) - 48)) - 9)) = (n' : Int) ∧ IntKind.i64.wrap ((i : Int) + 1) = (i' : Int) := by
  have e : IntKind.i64.wrap (2 * ((b - 48 : Nat) : Int)) = ((2 * (b - 48) : Nat) : Int) := by rw [w64 (by omega)]; omega
  rw [dw hd, e] at hc
  rw [(par hlt hL).1 c2, lW_2 (by omega)] at hn'
  rw [dw hd, e, w64 (n := ((2 * (b - 48) : Nat) : Int) - 9) (by omega), w64 (by omega), w64 (by omega)]
  omega
theorem good_rFine (L : List UInt8) (hL : L.length ≤ 100000) : GoodP Tryz.prog gl0 67 [.str L] (.bool (std.tb fun _ => lFine L)) := by
  refine fn_sound' (T := seatT) (G := gg2) (X := noX) seatT_ok gg2_ok noX_ok noI_ok mixed Tryz.func67 (.one) (fun A => [.str L]) (fun A => .bool (A.tb fun _ => lFine L)) fun A hA => ?_
  cbv
  repeat' (first | with_reducible exact True.intro | with_reducible exact dr_ok hA (by kernel_rfl) | with_reducible refine And.intro ?_ ?_ | (intro hc; cbv))
  rotate_right
  · have hk : isD L = true := by
      subst hA
      simp [sS] at hc
      exact hc
    clear hc
    have hbd := isD_bound hk
    refine ⟨⟨{p : Nat × Nat // p.1 ≤ L.length ∧ p.2 + lSum (L.drop p.1).reverse false = lSum L.reverse false}, fun b p => [(3, .int .i64 (p.1.2 : Nat)), (4, .int .i64 (p.1.1 : Nat)), (5, .any)], fun b p => [], fun p => L.length - p.1.1, true⟩, ⟨⟨(0, 0), by omega, by simp⟩, ?_⟩, ?_⟩
    · cbv
      subst hA
      simp [-List.getD_eq_getElem?_getD, sS]
    · rintro ⟨⟨i, n⟩, hi, hn⟩
      simp only at hi hn
      cbv
      repeat' (first | with_reducible exact True.intro | with_reducible exact dr_ok hA (by kernel_rfl) | with_reducible refine And.intro ?_ ?_ | (intro hc; cbv))
      all_goals first
        | (fail_if_success (refine Exists.intro ?_ ?_)
           subst hA
           simp [-List.getD_eq_getElem?_getD, sS, gD'] at *
           done)
        | (fail_if_success (refine Exists.intro ?_ ?_)
           subst hA
           simp [-List.getD_eq_getElem?_getD, sS, gD'] at *
           omega)
        | (fail_if_success (refine Exists.intro ?_ ?_)
           have hie : i = L.length := by (clear hn; subst hA; simp [sS] at *; omega)
           rw [hie, List.drop_length] at hn
           subst hA
           simp only [sS, Int.ofNat_eq_natCast]
           have hn2 : n = lSum L.reverse false := hn
           rw [hn2]
           simp [lFine, hk, tm10])
        | skip
      all_goals
          (have hlt : i < L.length := by clear hn; subst hA; simp [sS] at *; omega
           have hd := getD_dig hk hlt
           have hs := rf_step hlt
           obtain ⟨d', hd'⟩ : ∃ d', d' = lW (dig (L.getD i 0)) (odd (L.length - i - 1)) := ⟨_, rfl⟩
           obtain ⟨i', hi'⟩ : ∃ i', i' = i + 1 := ⟨_, rfl⟩
           obtain ⟨n', hn'⟩ : ∃ n', n' = n + d' := ⟨_, rfl⟩
           have hnn : n' + lSum (L.drop i').reverse false = lSum L.reverse false := by rw [hi']; omega
           refine ⟨⟨(i', n'), by omega, hnn⟩, ?_, show L.length - i' < L.length - i by omega⟩
           have hb : n' ≤ 510 * L.length := by omega
           have hg : dig (L.getD i 0) = (L.getD i 0).toNat - 48 := rfl
           cbv
           clear hn hnn hs hk hbd
           subst hA
           simp [-List.getD_eq_getElem?_getD, sS, gD'] at hc
           simp [-List.getD_eq_getElem?_getD, sS, gD']
           rw [hd'] at hn'
           rw [hg] at hn'
           first
             | with_reducible exact fin_0 hd hlt hL hi' hn' hb hc
             | (rename_i c2
                simp [-List.getD_eq_getElem?_getD, sS, gD'] at c2
                first | with_reducible exact fin_1 hd hlt hL hi' hn' hb c2 hc | with_reducible exact fin_2 hd hlt hL hi' hn' hb c2 hc))
  all_goals (subst hA; simp [sS, lFine] at *)
  all_goals first
    | omega
    | (intro h; rw [hc] at h; cases h)
    | trace_state
end Go.Vd

namespace Go.Proofs
open Go.Shelf
def Tryz.lays170_ren : Go.Shelf.Ren := ⟨fun | 170 => 164 | n => n, fun | 70 => 209 | 3 => 3 | 0 => 0 | 72 => 211 | 37 => 22 | 5 => 5 | n => n, fun | n => n⟩
theorem Tryz.lays170 : Go.Proofs.Lays.n170 Tryz.prog Tryz.lays170_ren := {
  mixed := by kernel_rfl
  f170 := Tryz.func164.trans (congrArg some (by kernel_rfl))
  t0 := Tryz.underlying0
  a0 := Tryz.isAgg0
  z0 := Tryz.sizeOf0
  v0 := Tryz.zeroValue0
  t3 := Tryz.underlying3
  a3 := Tryz.isAgg3
  z3 := Tryz.sizeOf3
  v3 := Tryz.zeroValue3
  t37 := Tryz.underlying22
  a37 := Tryz.isAgg22
  z37 := Tryz.sizeOf22
  v37 := Tryz.zeroValue22
  t70 := Tryz.underlying209
  a70 := Tryz.isAgg209
  z70 := Tryz.sizeOf209
  v70 := Tryz.zeroValue209
  t72 := Tryz.underlying211
  a72 := Tryz.isAgg211
  z72 := Tryz.sizeOf211
  v72 := Tryz.zeroValue211 }
open Go.RowKit in
theorem Tryz.Builder_Len (B b : Nat) (bs : List Value) (w : World) (h : Lib.IsBuilder 211 5 B b bs w) :
    Calls Tryz.prog 164 #[.pointer (some ⟨b, 0, none⟩)] w fun e w' => e = .returned (.int .i64 bs.length) ∧ w' = w := Any.Builder_Len Tryz.lays170 B b bs w h
def Tryz.lays169_ren : Go.Shelf.Ren := ⟨fun | 169 => 165 | n => n, fun | 70 => 209 | 9 => 9 | 0 => 0 | 72 => 211 | 37 => 22 | 127 => 223 | 3 => 3 | 5 => 5 | n => n, fun | n => n⟩
theorem Tryz.lays169 : Go.Proofs.Lays.n169 Tryz.prog Tryz.lays169_ren := {
  mixed := by kernel_rfl
  f169 := Tryz.func165.trans (congrArg some (by kernel_rfl))
  t0 := Tryz.underlying0
  a0 := Tryz.isAgg0
  z0 := Tryz.sizeOf0
  v0 := Tryz.zeroValue0
  t3 := Tryz.underlying3
  a3 := Tryz.isAgg3
  z3 := Tryz.sizeOf3
  v3 := Tryz.zeroValue3
  t9 := Tryz.underlying9
  a9 := Tryz.isAgg9
  z9 := Tryz.sizeOf9
  v9 := Tryz.zeroValue9
  t37 := Tryz.underlying22
  a37 := Tryz.isAgg22
  z37 := Tryz.sizeOf22
  v37 := Tryz.zeroValue22
  t70 := Tryz.underlying209
  a70 := Tryz.isAgg209
  z70 := Tryz.sizeOf209
  v70 := Tryz.zeroValue209
  t72 := Tryz.underlying211
  a72 := Tryz.isAgg211
  z72 := Tryz.sizeOf211
  v72 := Tryz.zeroValue211
  t127 := Tryz.underlying223
  a127 := Tryz.isAgg223
  z127 := Tryz.sizeOf223
  v127 := Tryz.zeroValue223 }
theorem Tryz.Builder_Extra_169 : Builder.Extra Tryz.prog Tryz.lays169_ren := {
  sizeBuilder := by kernel_rfl
  liesBuilder := by kernel_rfl
  t5 := Tryz.underlying5
  a5 := Tryz.isAgg5
  z5 := Tryz.sizeOf5
  v5 := Tryz.zeroValue5
  infoByte := by kernel_rfl
  cellsByte := by kernel_rfl
  sizeByte := by kernel_rfl
  neB5 := by decide }
open Go.RowKit in
theorem Tryz.Builder_String (B b : Nat) (l : List UInt8) (w : World) (h : Lib.IsBuilder 211 5 B b (Lib.byteCells l) w) (h0 : l ≠ []) :
    Calls Tryz.prog 165 #[.pointer (some ⟨b, 0, none⟩)] w fun e w' => e = .returned (.string ⟨l.toArray⟩) ∧ Below B w w' := Any.Builder_String Tryz.lays169 Tryz.Builder_Extra_169 B b l w h h0
open Go.RowKit in
theorem Tryz.Builder_String_empty (B b : Nat) (w : World) (h : Lib.IsBuilder 211 5 B b [] w) (hBw : B ≤ w.heap.size) :
    Calls Tryz.prog 165 #[.pointer (some ⟨b, 0, none⟩)] w fun e w' => e = .returned (.string ⟨#[]⟩) ∧ Below B w w' := Any.Builder_String_empty Tryz.lays169 Tryz.Builder_Extra_169 B b w h hBw
open Go.RowKit in
theorem Tryz.Builder_String_any (B b : Nat) (l : List UInt8) (w : World) (h : Lib.IsBuilder 211 5 B b (Lib.byteCells l) w) (hBw : B ≤ w.heap.size) :
    Calls Tryz.prog 165 #[.pointer (some ⟨b, 0, none⟩)] w fun e w' => e = .returned (.string ⟨l.toArray⟩) ∧ Below B w w' := Any.Builder_String_any Tryz.lays169 Tryz.Builder_Extra_169 B b l w h hBw
def Tryz.lays241_ren : Go.Shelf.Ren := ⟨fun | 241 => 172 | 277 => 178 | n => n, fun | 70 => 209 | 3 => 3 | 0 => 0 | 72 => 211 | 37 => 22 | 5 => 5 | n => n, fun | n => n⟩
theorem Tryz.lays241 : Go.Proofs.Lays.n241 Tryz.prog Tryz.lays241_ren := {
  mixed := by kernel_rfl
  f241 := Tryz.func172.trans (congrArg some (by kernel_rfl))
  f277 := Tryz.func178.trans (congrArg some (by kernel_rfl))
  t0 := Tryz.underlying0
  a0 := Tryz.isAgg0
  z0 := Tryz.sizeOf0
  v0 := Tryz.zeroValue0
  t3 := Tryz.underlying3
  a3 := Tryz.isAgg3
  z3 := Tryz.sizeOf3
  v3 := Tryz.zeroValue3
  t37 := Tryz.underlying22
  a37 := Tryz.isAgg22
  z37 := Tryz.sizeOf22
  v37 := Tryz.zeroValue22
  t70 := Tryz.underlying209
  a70 := Tryz.isAgg209
  z70 := Tryz.sizeOf209
  v70 := Tryz.zeroValue209
  t72 := Tryz.underlying211
  a72 := Tryz.isAgg211
  z72 := Tryz.sizeOf211
  v72 := Tryz.zeroValue211 }
theorem Tryz.Builder_Extra_241 : Builder.Extra Tryz.prog Tryz.lays241_ren := {
  sizeBuilder := by kernel_rfl
  liesBuilder := by kernel_rfl
  t5 := Tryz.underlying5
  a5 := Tryz.isAgg5
  z5 := Tryz.sizeOf5
  v5 := Tryz.zeroValue5
  infoByte := by kernel_rfl
  cellsByte := by kernel_rfl
  sizeByte := by kernel_rfl
  neB5 := by decide }
open Go.RowKit in
theorem Tryz.Builder_grow_fresh (B b n : Nat) (w : World) (hB : B ≤ b) (hbk : w.heap[b]? = some (.cells #[.pointer (some ⟨b, 0, none⟩), .slice none 0 0] 211 (0, 0))) (hBw : B ≤ w.heap.size) (hn : n ≤ 281474976710656) :
    Calls Tryz.prog 172 #[.pointer (some ⟨b, 0, none⟩), .int .i64 n] w fun e w' => e = .returned (.tuple #[]) ∧ (Lib.BuilderAt 211 5 B b (.pointer (some ⟨b, 0, none⟩)) [] w' ∧ Below B w w') := Any.Builder_grow_fresh Tryz.lays241 Tryz.Builder_Extra_241 B b n w hB hbk hBw hn
def Tryz.lays165_ren : Go.Shelf.Ren := ⟨fun | 165 => 162 | 240 => 171 | 241 => 172 | 276 => 177 | 277 => 178 | n => n, fun | 70 => 209 | 3 => 3 | 0 => 0 | 4 => 4 | 9 => 9 | 20 => 20 | 72 => 211 | 37 => 22 | 164 => 230 | 5 => 5 | n => n, fun | n => n⟩
theorem Tryz.lays165 : Go.Proofs.Lays.n165 Tryz.prog Tryz.lays165_ren := {
  mixed := by kernel_rfl
  f165 := Tryz.func162.trans (congrArg some (by kernel_rfl))
  f240 := Tryz.func171.trans (congrArg some (by kernel_rfl))
  f241 := Tryz.func172.trans (congrArg some (by kernel_rfl))
  f276 := Tryz.func177.trans (congrArg some (by kernel_rfl))
  f277 := Tryz.func178.trans (congrArg some (by kernel_rfl))
  t0 := Tryz.underlying0
  a0 := Tryz.isAgg0
  z0 := Tryz.sizeOf0
  v0 := Tryz.zeroValue0
  t3 := Tryz.underlying3
  a3 := Tryz.isAgg3
  z3 := Tryz.sizeOf3
  v3 := Tryz.zeroValue3
  t4 := Tryz.underlying4
  a4 := Tryz.isAgg4
  z4 := Tryz.sizeOf4
  v4 := Tryz.zeroValue4
  t9 := Tryz.underlying9
  a9 := Tryz.isAgg9
  z9 := Tryz.sizeOf9
  v9 := Tryz.zeroValue9
  t20 := Tryz.underlying20
  a20 := Tryz.isAgg20
  z20 := Tryz.sizeOf20
  v20 := Tryz.zeroValue20
  t37 := Tryz.underlying22
  a37 := Tryz.isAgg22
  z37 := Tryz.sizeOf22
  v37 := Tryz.zeroValue22
  t70 := Tryz.underlying209
  a70 := Tryz.isAgg209
  z70 := Tryz.sizeOf209
  v70 := Tryz.zeroValue209
  t72 := Tryz.underlying211
  a72 := Tryz.isAgg211
  z72 := Tryz.sizeOf211
  v72 := Tryz.zeroValue211
  t164 := Tryz.underlying230
  a164 := Tryz.isAgg230
  z164 := Tryz.sizeOf230
  v164 := Tryz.zeroValue230 }
theorem Tryz.Builder_Extra_165 : Builder.Extra Tryz.prog Tryz.lays165_ren := {
  sizeBuilder := by kernel_rfl
  liesBuilder := by kernel_rfl
  t5 := Tryz.underlying5
  a5 := Tryz.isAgg5
  z5 := Tryz.sizeOf5
  v5 := Tryz.zeroValue5
  infoByte := by kernel_rfl
  cellsByte := by kernel_rfl
  sizeByte := by kernel_rfl
  neB5 := by decide }
open Go.RowKit in
theorem Tryz.Builder_Grow_fresh (B b n : Nat) (w : World) (hB : B ≤ b) (hbk : w.heap[b]? = some (.cells #[.pointer none, .slice none 0 0] 211 (0, 0))) (hBw : B ≤ w.heap.size) (hn : n ≤ 281474976710656) :
    Calls Tryz.prog 162 #[.pointer (some ⟨b, 0, none⟩), .int .i64 n] w fun e w' => e = .returned (.tuple #[]) ∧ (Lib.BuilderAt 211 5 B b (.pointer (some ⟨b, 0, none⟩)) [] w' ∧ Below B w w') := Any.Builder_Grow_fresh Tryz.lays165 Tryz.Builder_Extra_165 B b n w hB hbk hBw hn
open Go.RowKit in
theorem Tryz.Builder_Len_f (B b : Nat) (bs : List Value) (w : World) (h : Lib.IsBuilderF 211 5 B b bs w) :
    Calls Tryz.prog 164 #[.pointer (some ⟨b, 0, none⟩)] w fun e w' => e = .returned (.int .i64 bs.length) ∧ w' = w := Any.Builder_Len_f Tryz.lays170 B b bs w h
open Go.RowKit in
theorem Tryz.Builder_String_f (B b : Nat) (l : List UInt8) (w : World) (h : Lib.IsBuilderF 211 5 B b (Lib.byteCells l) w) (h0 : l ≠ []) :
    Calls Tryz.prog 165 #[.pointer (some ⟨b, 0, none⟩)] w fun e w' => e = .returned (.string ⟨l.toArray⟩) ∧ (Lib.IsBuilderF 211 5 B b (Lib.byteCells l) w' ∧ Below B w w') := Any.Builder_String_f Tryz.lays169 Tryz.Builder_Extra_169 B b l w h h0
open Go.RowKit in
theorem Tryz.Builder_String_empty_f (B b : Nat) (w : World) (h : Lib.IsBuilderF 211 5 B b [] w) (hBw : B ≤ w.heap.size) :
    Calls Tryz.prog 165 #[.pointer (some ⟨b, 0, none⟩)] w fun e w' => e = .returned (.string ⟨#[]⟩) ∧ (Lib.IsBuilderF 211 5 B b [] w' ∧ Below B w w') := Any.Builder_String_empty_f Tryz.lays169 Tryz.Builder_Extra_169 B b w h hBw
open Go.RowKit in
theorem Tryz.Builder_String_any_f (B b : Nat) (l : List UInt8) (w : World) (h : Lib.IsBuilderF 211 5 B b (Lib.byteCells l) w) (hBw : B ≤ w.heap.size) :
    Calls Tryz.prog 165 #[.pointer (some ⟨b, 0, none⟩)] w fun e w' => e = .returned (.string ⟨l.toArray⟩) ∧ (Lib.IsBuilderF 211 5 B b (Lib.byteCells l) w' ∧ Below B w w') := Any.Builder_String_any_f Tryz.lays169 Tryz.Builder_Extra_169 B b l w h hBw
open Go.RowKit in
theorem Tryz.Builder_String_k (B b : Nat) (l : List UInt8) (w : World) (h : Lib.IsBuilderF 211 5 B b (Lib.byteCells l) w) (h0 : l ≠ []) :
    Calls Tryz.prog 165 #[.pointer (some ⟨b, 0, none⟩)] w fun e w' => e = .returned (.string ⟨l.toArray⟩) ∧ (Lib.IsBuilderF 211 5 B b (Lib.byteCells l) w' ∧ Below B w w' ∧ Lib.OthersKept 5 (some b) w w') := Any.Builder_String_k Tryz.lays169 Tryz.Builder_Extra_169 B b l w h h0
open Go.RowKit in
theorem Tryz.Builder_String_empty_k (B b : Nat) (w : World) (h : Lib.IsBuilderF 211 5 B b [] w) (hBw : B ≤ w.heap.size) :
    Calls Tryz.prog 165 #[.pointer (some ⟨b, 0, none⟩)] w fun e w' => e = .returned (.string ⟨#[]⟩) ∧ (Lib.IsBuilderF 211 5 B b [] w' ∧ Below B w w' ∧ Lib.OthersKept 5 (some b) w w') := Any.Builder_String_empty_k Tryz.lays169 Tryz.Builder_Extra_169 B b w h hBw
open Go.RowKit in
theorem Tryz.Builder_String_any_k (B b : Nat) (l : List UInt8) (w : World) (h : Lib.IsBuilderF 211 5 B b (Lib.byteCells l) w) (hBw : B ≤ w.heap.size) :
    Calls Tryz.prog 165 #[.pointer (some ⟨b, 0, none⟩)] w fun e w' => e = .returned (.string ⟨l.toArray⟩) ∧ (Lib.IsBuilderF 211 5 B b (Lib.byteCells l) w' ∧ Below B w w' ∧ Lib.OthersKept 5 (some b) w w') := Any.Builder_String_any_k Tryz.lays169 Tryz.Builder_Extra_169 B b l w h hBw
open Go.RowKit in
theorem Tryz.Builder_grow_fresh_cap (B b n : Nat) (w : World) (hB : B ≤ b) (hbk : w.heap[b]? = some (.cells #[.pointer (some ⟨b, 0, none⟩), .slice none 0 0] 211 (0, 0))) (hBw : B ≤ w.heap.size) (hn : n ≤ 281474976710656) :
    Calls Tryz.prog 172 #[.pointer (some ⟨b, 0, none⟩), .int .i64 n] w fun e w' => e = .returned (.tuple #[]) ∧ (Lib.BuilderAt 211 5 B b (.pointer (some ⟨b, 0, none⟩)) [] w' ∧ Below B w w') ∧ ∃ p cap, w'.cell? ⟨b, 1, none⟩ = some (.slice p 0 cap) ∧ n ≤ cap := Any.Builder_grow_fresh_cap Tryz.lays241 Tryz.Builder_Extra_241 B b n w hB hbk hBw hn
open Go.RowKit in
theorem Tryz.Builder_Grow_fresh_cap (B b n : Nat) (w : World) (hB : B ≤ b) (hbk : w.heap[b]? = some (.cells #[.pointer none, .slice none 0 0] 211 (0, 0))) (hBw : B ≤ w.heap.size) (hn : n ≤ 281474976710656) :
    Calls Tryz.prog 162 #[.pointer (some ⟨b, 0, none⟩), .int .i64 n] w fun e w' => e = .returned (.tuple #[]) ∧ (Lib.BuilderAt 211 5 B b (.pointer (some ⟨b, 0, none⟩)) [] w' ∧ Below B w w') ∧ ∃ p cap, w'.cell? ⟨b, 1, none⟩ = some (.slice p 0 cap) ∧ n ≤ cap := Any.Builder_Grow_fresh_cap Tryz.lays165 Tryz.Builder_Extra_165 B b n w hB hbk hBw hn
def Tryz.lays129_ren : Go.Shelf.Ren := ⟨fun | 129 => 180 | n => n, fun | 53 => 26 | 3 => 3 | 4 => 4 | 46 => 148 | 5 => 5 | 9 => 9 | n => n, fun | n => n⟩
theorem Tryz.lays129 : Go.Proofs.Lays.n129 Tryz.prog Tryz.lays129_ren := {
  mixed := by kernel_rfl
  f129 := Tryz.func180.trans (congrArg some (by kernel_rfl))
  t3 := Tryz.underlying3
  a3 := Tryz.isAgg3
  z3 := Tryz.sizeOf3
  v3 := Tryz.zeroValue3
  t4 := Tryz.underlying4
  a4 := Tryz.isAgg4
  z4 := Tryz.sizeOf4
  v4 := Tryz.zeroValue4
  t5 := Tryz.underlying5
  a5 := Tryz.isAgg5
  z5 := Tryz.sizeOf5
  v5 := Tryz.zeroValue5
  t9 := Tryz.underlying9
  a9 := Tryz.isAgg9
  z9 := Tryz.sizeOf9
  v9 := Tryz.zeroValue9
  t46 := Tryz.underlying148
  a46 := Tryz.isAgg148
  z46 := Tryz.sizeOf148
  v46 := Tryz.zeroValue148
  t53 := Tryz.underlying26
  a53 := Tryz.isAgg26
  z53 := Tryz.sizeOf26
  v53 := Tryz.zeroValue26 }
theorem Tryz.bits_Len64 (x : Int) (w : World) (h0 : 0 ≤ x) (h1 : x ≤ 18446744073709551615) :
    Calls Tryz.prog 180 #[.int .u64 x] w fun e w' => e = .returned (.int .i64 (Lib.bitLen x.toNat)) ∧ w' = w := Any.bits_Len64 Tryz.lays129 x w h0 h1
def Tryz.lays317_ren : Go.Shelf.Ren := ⟨fun | 317 => 179 | n => n, fun | 3 => 3 | 46 => 148 | n => n, fun | n => n⟩
theorem Tryz.lays317 : Go.Proofs.Lays.n317 Tryz.prog Tryz.lays317_ren := {
  mixed := by kernel_rfl
  f317 := Tryz.func179.trans (congrArg some (by kernel_rfl))
  t3 := Tryz.underlying3
  a3 := Tryz.isAgg3
  z3 := Tryz.sizeOf3
  v3 := Tryz.zeroValue3
  t46 := Tryz.underlying148
  a46 := Tryz.isAgg148
  z46 := Tryz.sizeOf148
  v46 := Tryz.zeroValue148 }
open Go.Lib in
theorem Tryz.internal_strconv_log10Pow2 (x : Nat) (h : x ≤ 64) (w : World) :
    Calls Tryz.prog 179 #[.int .i64 x] w fun e w' => e = .returned (.int .i64 (Lib.l10 x)) ∧ w' = w := Any.internal_strconv_log10Pow2 Tryz.lays317 x h w
def Tryz.lays318_ren : Go.Shelf.Ren := ⟨fun | 318 => 181 | n => n, fun | 3 => 3 | 4 => 4 | n => n, fun | n => n⟩
theorem Tryz.lays318 : Go.Proofs.Lays.n318 Tryz.prog Tryz.lays318_ren := {
  mixed := by kernel_rfl
  f318 := Tryz.func181.trans (congrArg some (by kernel_rfl))
  t3 := Tryz.underlying3
  a3 := Tryz.isAgg3
  z3 := Tryz.sizeOf3
  v3 := Tryz.zeroValue3
  t4 := Tryz.underlying4
  a4 := Tryz.isAgg4
  z4 := Tryz.sizeOf4
  v4 := Tryz.zeroValue4 }
open Go.Lib in
theorem Tryz.internal_strconv_bool2_int (b : Bool) (w : World) :
    Calls Tryz.prog 181 #[.bool b] w fun e w' => e = .returned (.int .i64 (if b then 1 else 0)) ∧ w' = w := Any.internal_strconv_bool2_int Tryz.lays318 b w
def Tryz.lays283_ren : Go.Shelf.Ren := ⟨fun | 283 => 173 | n => n, fun | 3 => 3 | 9 => 9 | 4 => 4 | n => n, fun | n => n⟩
theorem Tryz.lays283 : Go.Proofs.Lays.n283 Tryz.prog Tryz.lays283_ren := {
  mixed := by kernel_rfl
  f283 := Tryz.func173.trans (congrArg some (by kernel_rfl))
  t3 := Tryz.underlying3
  a3 := Tryz.isAgg3
  z3 := Tryz.sizeOf3
  v3 := Tryz.zeroValue3
  t4 := Tryz.underlying4
  a4 := Tryz.isAgg4
  z4 := Tryz.sizeOf4
  v4 := Tryz.zeroValue4
  t9 := Tryz.underlying9
  a9 := Tryz.isAgg9
  z9 := Tryz.sizeOf9
  v9 := Tryz.zeroValue9 }
open Go.Lib in
theorem Tryz.internal_strconv_small (i : Nat) (h : i < 100) (w : World) :
    Calls Tryz.prog 173 #[.int .i64 i] w fun e w' => e = .returned (.string ⟨(Lib.decDigits i).toArray⟩) ∧ w' = w := Any.internal_strconv_small Tryz.lays283 i h w
def Tryz.laysM284_ren : Go.Shelf.Ren := ⟨fun | 284 => 174 | 129 => 180 | 317 => 179 | 318 => 181 | n => n, fun | 53 => 26 | 3 => 3 | 212 => 234 | 0 => 0 | 4 => 4 | 46 => 148 | 5 => 5 | 9 => 9 | n => n, fun | 17 => 2 | n => n⟩
theorem Tryz.laysM284 : Go.Proofs.LaysM.n284 Tryz.prog Tryz.laysM284_ren := {
  mixed := by kernel_rfl
  f129 := Tryz.func180.trans (congrArg some (by kernel_rfl))
  f284 := Tryz.func174.trans (congrArg some (by kernel_rfl))
  f317 := Tryz.func179.trans (congrArg some (by kernel_rfl))
  f318 := Tryz.func181.trans (congrArg some (by kernel_rfl))
  t0 := Tryz.underlying0
  a0 := Tryz.isAgg0
  z0 := Tryz.sizeOf0
  v0 := Tryz.zeroValue0
  t3 := Tryz.underlying3
  a3 := Tryz.isAgg3
  z3 := Tryz.sizeOf3
  v3 := Tryz.zeroValue3
  t4 := Tryz.underlying4
  a4 := Tryz.isAgg4
  z4 := Tryz.sizeOf4
  v4 := Tryz.zeroValue4
  t5 := Tryz.underlying5
  a5 := Tryz.isAgg5
  z5 := Tryz.sizeOf5
  v5 := Tryz.zeroValue5
  t9 := Tryz.underlying9
  a9 := Tryz.isAgg9
  z9 := Tryz.sizeOf9
  v9 := Tryz.zeroValue9
  t46 := Tryz.underlying148
  a46 := Tryz.isAgg148
  z46 := Tryz.sizeOf148
  v46 := Tryz.zeroValue148
  t53 := Tryz.underlying26
  a53 := Tryz.isAgg26
  z53 := Tryz.sizeOf26
  v53 := Tryz.zeroValue26
  t212 := Tryz.underlying234
  a212 := Tryz.isAgg234
  z212 := Tryz.sizeOf234
  v212 := Tryz.zeroValue234
  g17 := by kernel_rfl
  i0 := by kernel_rfl
  i3 := by kernel_rfl
  i4 := by kernel_rfl
  i5 := by kernel_rfl
  i9 := by kernel_rfl
  i46 := by kernel_rfl
  i53 := by kernel_rfl
  i212 := by kernel_rfl
  m17 := by kernel_rfl }
open Go.Lib in
theorem Tryz.internal_strconv_numDigits (u : Nat) (h1 : 1 ≤ u) (h2 : u < 18446744073709551616) (w : World) (htab : Lib.TabIs Tryz.prog w "internal/strconv.uint64pow10" .u64 Lib.pow10Tab) :
    Calls Tryz.prog 174 #[.int .u64 u] w fun e w' => e = .returned (.int .i64 (Lib.nDigits u)) ∧ w' = w := Any.internal_strconv_numDigits Tryz.laysM284 u h1 h2 w htab
def Tryz.lays285_ren : Go.Shelf.Ren := ⟨fun | 285 => 175 | n => n, fun | 37 => 22 | 53 => 26 | 3 => 3 | 4 => 4 | 51 => 27 | 9 => 9 | 5 => 5 | 0 => 0 | n => n, fun | n => n⟩
theorem Tryz.lays285 : Go.Proofs.Lays.n285 Tryz.prog Tryz.lays285_ren := {
  mixed := by kernel_rfl
  f285 := Tryz.func175.trans (congrArg some (by kernel_rfl))
  t0 := Tryz.underlying0
  a0 := Tryz.isAgg0
  z0 := Tryz.sizeOf0
  v0 := Tryz.zeroValue0
  t3 := Tryz.underlying3
  a3 := Tryz.isAgg3
  z3 := Tryz.sizeOf3
  v3 := Tryz.zeroValue3
  t4 := Tryz.underlying4
  a4 := Tryz.isAgg4
  z4 := Tryz.sizeOf4
  v4 := Tryz.zeroValue4
  t5 := Tryz.underlying5
  a5 := Tryz.isAgg5
  z5 := Tryz.sizeOf5
  v5 := Tryz.zeroValue5
  t9 := Tryz.underlying9
  a9 := Tryz.isAgg9
  z9 := Tryz.sizeOf9
  v9 := Tryz.zeroValue9
  t37 := Tryz.underlying22
  a37 := Tryz.isAgg22
  z37 := Tryz.sizeOf22
  v37 := Tryz.zeroValue22
  t51 := Tryz.underlying27
  a51 := Tryz.isAgg27
  z51 := Tryz.sizeOf27
  v51 := Tryz.zeroValue27
  t53 := Tryz.underlying26
  a53 := Tryz.isAgg26
  z53 := Tryz.sizeOf26
  v53 := Tryz.zeroValue26 }
open Go.RowKit Go.Sort Go.Lib in
theorem Tryz.internal_strconv_formatBase10 (blk off cap : Nat) (u : Nat) (d : Array UInt8) (w : World) (hH : Holds (fun (b : UInt8) => Value.int .u8 (b.toNat : Int)) w blk off d) (hu : u < 10 ^ d.size) (hu64 : u < 18446744073709551616) (hsz : d.size < 4611686018427387904) :
    Calls Tryz.prog 175 #[.slice (some ⟨blk, off, none⟩) d.size cap, .int .u64 u] w fun e w' =>
      e = .returned (.tuple #[]) ∧ ∃ (n v' : Nat) (dk : Array UInt8), w' = (putRow (fun (b : UInt8) => Value.int .u8 (b.toNat : Int)) w blk off dk).drewN n ∧ FmtInv d.size u 0 v' dk := Any.internal_strconv_formatBase10 Tryz.lays285 blk off cap u d w hH hu hu64 hsz
def Tryz.lays206_ren : Go.Shelf.Ren := ⟨fun | 206 => 170 | n => n, fun | 9 => 9 | 4 => 4 | 3 => 3 | n => n, fun | n => n⟩
theorem Tryz.lays206 : Go.Proofs.Lays.n206 Tryz.prog Tryz.lays206_ren := {
  mixed := by kernel_rfl
  f206 := Tryz.func170.trans (congrArg some (by kernel_rfl))
  t3 := Tryz.underlying3
  a3 := Tryz.isAgg3
  z3 := Tryz.sizeOf3
  v3 := Tryz.zeroValue3
  t4 := Tryz.underlying4
  a4 := Tryz.isAgg4
  z4 := Tryz.sizeOf4
  v4 := Tryz.zeroValue4
  t9 := Tryz.underlying9
  a9 := Tryz.isAgg9
  z9 := Tryz.sizeOf9
  v9 := Tryz.zeroValue9 }
open Go.RowKit Go.Lib in
theorem Tryz.stringslite_HasPrefix (s p : ByteArray) (w : World) :
    Calls Tryz.prog 170 #[.string s, .string p] w fun e w' => e = .returned (.bool (Lib.hasPrefix s.data.toList p.data.toList)) ∧ w' = w := Any.stringslite_HasPrefix Tryz.lays206 s p w
def Tryz.lays99_ren : Go.Shelf.Ren := ⟨fun | 99 => 161 | 206 => 170 | n => n, fun | 9 => 9 | 4 => 4 | 3 => 3 | n => n, fun | n => n⟩
theorem Tryz.lays99 : Go.Proofs.Lays.n99 Tryz.prog Tryz.lays99_ren := {
  mixed := by kernel_rfl
  f99 := Tryz.func161.trans (congrArg some (by kernel_rfl))
  f206 := Tryz.func170.trans (congrArg some (by kernel_rfl))
  t3 := Tryz.underlying3
  a3 := Tryz.isAgg3
  z3 := Tryz.sizeOf3
  v3 := Tryz.zeroValue3
  t4 := Tryz.underlying4
  a4 := Tryz.isAgg4
  z4 := Tryz.sizeOf4
  v4 := Tryz.zeroValue4
  t9 := Tryz.underlying9
  a9 := Tryz.isAgg9
  z9 := Tryz.sizeOf9
  v9 := Tryz.zeroValue9 }
open Go.RowKit Go.Lib in
theorem Tryz.strings_HasPrefix (s p : ByteArray) (w : World) :
    Calls Tryz.prog 161 #[.string s, .string p] w fun e w' => e = .returned (.bool (Lib.hasPrefix s.data.toList p.data.toList)) ∧ w' = w := Any.strings_HasPrefix Tryz.lays99 s p w
def Tryz.lays264_ren : Go.Shelf.Ren := ⟨fun | 264 => 169 | n => n, fun | 53 => 26 | 46 => 148 | n => n, fun | n => n⟩
theorem Tryz.lays264 : Go.Proofs.Lays.n264 Tryz.prog Tryz.lays264_ren := {
  mixed := by kernel_rfl
  f264 := Tryz.func169.trans (congrArg some (by kernel_rfl))
  t46 := Tryz.underlying148
  a46 := Tryz.isAgg148
  z46 := Tryz.sizeOf148
  v46 := Tryz.zeroValue148
  t53 := Tryz.underlying26
  a53 := Tryz.isAgg26
  z53 := Tryz.sizeOf26
  v53 := Tryz.zeroValue26 }
open Go.RowKit Go.Lib in
theorem Tryz.bits_Mul64 (x y : Nat) (hx : x < 18446744073709551616) (hy : y < 18446744073709551616) (w : World) :
    Calls Tryz.prog 169 #[.int .u64 x, .int .u64 y] w fun e w' => e = .returned (.tuple #[.int .u64 ((x * y / 18446744073709551616 : Nat) : Int), .int .u64 ((x * y % 18446744073709551616 : Nat) : Int)]) ∧ w' = w := Any.bits_Mul64 Tryz.lays264 x y hx hy w
def Tryz.lays212_ren : Go.Shelf.Ren := ⟨fun | 212 => 160 | 263 => 168 | 264 => 169 | n => n, fun | 46 => 148 | 51 => 27 | 146 => 219 | 53 => 26 | 148 => 221 | n => n, fun | n => n⟩
theorem Tryz.lays212 : Go.Proofs.Lays.n212 Tryz.prog Tryz.lays212_ren := {
  mixed := by kernel_rfl
  f212 := Tryz.func160.trans (congrArg some (by kernel_rfl))
  f263 := Tryz.func168.trans (congrArg some (by kernel_rfl))
  f264 := Tryz.func169.trans (congrArg some (by kernel_rfl))
  t46 := Tryz.underlying148
  a46 := Tryz.isAgg148
  z46 := Tryz.sizeOf148
  v46 := Tryz.zeroValue148
  t51 := Tryz.underlying27
  a51 := Tryz.isAgg27
  z51 := Tryz.sizeOf27
  v51 := Tryz.zeroValue27
  t53 := Tryz.underlying26
  a53 := Tryz.isAgg26
  z53 := Tryz.sizeOf26
  v53 := Tryz.zeroValue26
  t146 := Tryz.underlying219
  a146 := Tryz.isAgg219
  z146 := Tryz.sizeOf219
  v146 := Tryz.zeroValue219
  t148 := Tryz.underlying221
  a148 := Tryz.isAgg221
  z148 := Tryz.sizeOf221
  v148 := Tryz.zeroValue221 }
open Go.RowKit Go.Lib in
theorem Tryz.bits_Mul (x y : Nat) (hx : x < 18446744073709551616) (hy : y < 18446744073709551616) (w : World) :
    Calls Tryz.prog 160 #[.int .u64 x, .int .u64 y] w fun e w' => e = .returned (.tuple #[.int .u64 ((x * y / 18446744073709551616 : Nat) : Int), .int .u64 ((x * y % 18446744073709551616 : Nat) : Int)]) ∧ w' = w := Any.bits_Mul Tryz.lays212 x y hx hy w
def Tryz.lays105_ren : Go.Shelf.Ren := ⟨fun | 105 => 144 | 212 => 160 | 99 => 161 | 165 => 162 | 166 => 163 | 170 => 164 | 169 => 165 | 263 => 168 | 264 => 169 | 206 => 170 | 240 => 171 | 241 => 172 | 276 => 177 | 277 => 178 | n => n, fun | 9 => 9 | 3 => 3 | 4 => 4 | 20 => 20 | 0 => 0 | 46 => 148 | 109 => 206 | 5 => 5 | 72 => 211 | 76 => 215 | 51 => 27 | 146 => 219 | 53 => 26 | 148 => 221 | 70 => 209 | 37 => 22 | 75 => 214 | 127 => 223 | 164 => 230 | 80 => 217 | n => n, fun | n => n⟩
theorem Tryz.lays105 : Go.Proofs.Lays.n105 Tryz.prog Tryz.lays105_ren := {
  mixed := by kernel_rfl
  f99 := Tryz.func161.trans (congrArg some (by kernel_rfl))
  f105 := Tryz.func144.trans (congrArg some (by kernel_rfl))
  f165 := Tryz.func162.trans (congrArg some (by kernel_rfl))
  f166 := Tryz.func163.trans (congrArg some (by kernel_rfl))
  f169 := Tryz.func165.trans (congrArg some (by kernel_rfl))
  f170 := Tryz.func164.trans (congrArg some (by kernel_rfl))
  f206 := Tryz.func170.trans (congrArg some (by kernel_rfl))
  f212 := Tryz.func160.trans (congrArg some (by kernel_rfl))
  f240 := Tryz.func171.trans (congrArg some (by kernel_rfl))
  f241 := Tryz.func172.trans (congrArg some (by kernel_rfl))
  f263 := Tryz.func168.trans (congrArg some (by kernel_rfl))
  f264 := Tryz.func169.trans (congrArg some (by kernel_rfl))
  f276 := Tryz.func177.trans (congrArg some (by kernel_rfl))
  f277 := Tryz.func178.trans (congrArg some (by kernel_rfl))
  t0 := Tryz.underlying0
  a0 := Tryz.isAgg0
  z0 := Tryz.sizeOf0
  v0 := Tryz.zeroValue0
  t3 := Tryz.underlying3
  a3 := Tryz.isAgg3
  z3 := Tryz.sizeOf3
  v3 := Tryz.zeroValue3
  t4 := Tryz.underlying4
  a4 := Tryz.isAgg4
  z4 := Tryz.sizeOf4
  v4 := Tryz.zeroValue4
  t5 := Tryz.underlying5
  a5 := Tryz.isAgg5
  z5 := Tryz.sizeOf5
  v5 := Tryz.zeroValue5
  t9 := Tryz.underlying9
  a9 := Tryz.isAgg9
  z9 := Tryz.sizeOf9
  v9 := Tryz.zeroValue9
  t20 := Tryz.underlying20
  a20 := Tryz.isAgg20
  z20 := Tryz.sizeOf20
  v20 := Tryz.zeroValue20
  t37 := Tryz.underlying22
  a37 := Tryz.isAgg22
  z37 := Tryz.sizeOf22
  v37 := Tryz.zeroValue22
  t46 := Tryz.underlying148
  a46 := Tryz.isAgg148
  z46 := Tryz.sizeOf148
  v46 := Tryz.zeroValue148
  t51 := Tryz.underlying27
  a51 := Tryz.isAgg27
  z51 := Tryz.sizeOf27
  v51 := Tryz.zeroValue27
  t53 := Tryz.underlying26
  a53 := Tryz.isAgg26
  z53 := Tryz.sizeOf26
  v53 := Tryz.zeroValue26
  t70 := Tryz.underlying209
  a70 := Tryz.isAgg209
  z70 := Tryz.sizeOf209
  v70 := Tryz.zeroValue209
  t72 := Tryz.underlying211
  a72 := Tryz.isAgg211
  z72 := Tryz.sizeOf211
  v72 := Tryz.zeroValue211
  t75 := Tryz.underlying214
  a75 := Tryz.isAgg214
  z75 := Tryz.sizeOf214
  v75 := Tryz.zeroValue214
  t76 := Tryz.underlying215
  a76 := Tryz.isAgg215
  z76 := Tryz.sizeOf215
  v76 := Tryz.zeroValue215
  t109 := Tryz.underlying206
  a109 := Tryz.isAgg206
  z109 := Tryz.sizeOf206
  v109 := Tryz.zeroValue206
  t127 := Tryz.underlying223
  a127 := Tryz.isAgg223
  z127 := Tryz.sizeOf223
  v127 := Tryz.zeroValue223
  t146 := Tryz.underlying219
  a146 := Tryz.isAgg219
  z146 := Tryz.sizeOf219
  v146 := Tryz.zeroValue219
  t148 := Tryz.underlying221
  a148 := Tryz.isAgg221
  z148 := Tryz.sizeOf221
  v148 := Tryz.zeroValue221
  t164 := Tryz.underlying230
  a164 := Tryz.isAgg230
  z164 := Tryz.sizeOf230
  v164 := Tryz.zeroValue230 }
theorem Tryz.Builder_Extra_105 : Builder.Extra Tryz.prog Tryz.lays105_ren := {
  sizeBuilder := by kernel_rfl
  liesBuilder := by kernel_rfl
  t5 := Tryz.underlying5
  a5 := Tryz.isAgg5
  z5 := Tryz.sizeOf5
  v5 := Tryz.zeroValue5
  infoByte := by kernel_rfl
  cellsByte := by kernel_rfl
  sizeByte := by kernel_rfl
  neB5 := by decide }
open Go.RowKit Go.Lib in
theorem Tryz.strings_Repeat_main (s : ByteArray) (c : Nat) (w : World) (hc2 : 2 ≤ c) (hc : c ≤ 9223372036854775807) (hlen : s.size * c ≤ 140737488355328) (h0 : 0 < s.size) :
    Calls Tryz.prog 144 #[.string s, .int .i64 c] w fun e w' => e = .returned (.string ⟨(Lib.repeatL s.data.toList c).toArray⟩) ∧ Below w.heap.size w w' := Any.strings_Repeat_main Tryz.lays105 Tryz.Builder_Extra_105 s c w hc2 hc hlen h0
open Go.RowKit Go.Lib in
theorem Tryz.strings_Repeat_zero (s : ByteArray) (w : World) :
    Calls Tryz.prog 144 #[.string s, .int .i64 0] w fun e w' => e = .returned (.string ⟨#[]⟩) ∧ w' = w := Any.strings_Repeat_zero Tryz.lays105 s w
open Go.RowKit Go.Lib in
theorem Tryz.strings_Repeat_one (s : ByteArray) (w : World) :
    Calls Tryz.prog 144 #[.string s, .int .i64 1] w fun e w' => e = .returned (.string s) ∧ w' = w := Any.strings_Repeat_one Tryz.lays105 s w
open Go.RowKit Go.Lib in
theorem Tryz.strings_Repeat_empty (s : ByteArray) (c : Nat) (w : World) (hc2 : 2 ≤ c) (hc : c ≤ 9223372036854775807) (h0 : s.size = 0) :
    Calls Tryz.prog 144 #[.string s, .int .i64 c] w fun e w' => e = .returned (.string ⟨#[]⟩) ∧ w' = w := Any.strings_Repeat_empty Tryz.lays105 s c w hc2 hc h0
open Go.RowKit Go.Lib in
theorem Tryz.strings_Repeat_negative (s : ByteArray) (c : Int) (w : World) (hc : c < 0) :
    Calls Tryz.prog 144 #[.string s, .int .i64 c] w fun e w' => e = .panicked [{ v := repeatPanic Tryz.lays105_ren "strings: negative Repeat count", recovered := false }] ∧ w' = w := Any.strings_Repeat_negative Tryz.lays105 s c w hc
open Go.RowKit Go.Lib in
theorem Tryz.strings_Repeat_overflow (s : ByteArray) (c : Nat) (w : World) (hc : c ≤ 9223372036854775807) (hs : s.size ≤ 9223372036854775807) (hbig : 9223372036854775807 < s.size * c) :
    Calls Tryz.prog 144 #[.string s, .int .i64 c] w fun e w' => e = .panicked [{ v := repeatPanic Tryz.lays105_ren "strings: Repeat output length overflow", recovered := false }] ∧ w' = w := Any.strings_Repeat_overflow Tryz.lays105 s c w hc hs hbig
open Go.RowKit Go.Lib in
theorem Tryz.strings_Repeat (s : ByteArray) (c : Nat) (w : World) (hc : c ≤ 9223372036854775807) (hlen : s.size * c ≤ 140737488355328) :
    Calls Tryz.prog 144 #[.string s, .int .i64 c] w fun e w' => e = .returned (.string ⟨(Lib.repeatL s.data.toList c).toArray⟩) ∧ Below w.heap.size w w' := Any.strings_Repeat Tryz.lays105 Tryz.Builder_Extra_105 s c w hc hlen
end Go.Proofs

set_option linter.unusedVariables false
namespace Go.Proofs
open Go.Shelf Go.RowKit Go.Sort Go.Lib
theorem hz0 (w : World) (T : TypeId) (nd : Nat) (hs : nd ≤ 24) : Holds (fun (b : UInt8) => Value.int .u8 (b.toNat : Int)) (w.alloc (.cells Lib.zeros24 T)) w.heap.size 0 (Array.replicate nd (0 : UInt8)) := fun j hj => by
  have hj' : j < nd := by simpa using hj
  refine ⟨?_, World.frozen?_alloc_new _ _ _ _⟩
  rw [World.cell?_alloc_new, Lib.zeros24_at _ (by omega), getElem!_pos _ j hj]
  simp
theorem fin0 (w : World) (o : Obj) (dk : Array UInt8) (k : Nat) : ∃ os, (putRow (fun (b : UInt8) => Value.int .u8 (b.toNat : Int)) (w.alloc o) w.heap.size 0 dk).drewN k = grow (w.drewN k) os := by
  rw [alloc_eq_grow]
  obtain ⟨os', _, e⟩ := putRow_grow_new (fun (b : UInt8) => Value.int .u8 (b.toNat : Int)) w #[o] w.heap.size 0 dk (Nat.le_refl _)
  exact ⟨os', by rw [e]; rfl⟩

set_option maxRecDepth 100000 in
set_option maxHeartbeats 2000000 in
theorem fmtU_small (u : Nat) (h : u < 100) (w : World) :
    Calls Tryz.prog 166 #[.int .u64 (u : Int), .int .i64 10] w fun e w' => e = .returned (.string ⟨(Lib.decDigits u).toArray⟩) ∧ w' = w := by
  have hc : IntKind.i64.wrap (u : Int) = (u : Int) := by rw [IntKind.wrap_i64]; omega
  go_enter Tryz.func166, Tryz.ntmps166
  go_wp2_with (go_at_call 173; refine (Tryz.internal_strconv_small u h _).mono ?_; rintro e w' ⟨rfl, rfl⟩)
  go_ret
  exact ⟨rfl, rfl⟩

set_option maxRecDepth 100000 in
set_option maxHeartbeats 6400000 in
theorem fmtU_big (u : Nat) (h100 : 100 ≤ u) (hu64 : u < 18446744073709551616) (w : World) (htab : Lib.TabIs Tryz.prog w "internal/strconv.uint64pow10" .u64 Lib.pow10Tab) :
    Calls Tryz.prog 166 #[.int .u64 (u : Int), .int .i64 10] w fun e w' => e = .returned (.string ⟨(Lib.decDigits u).toArray⟩) ∧ ∃ k os, w' = grow (w.drewN k) os := by
  have hu1 : 1 ≤ u := by omega
  have hnd20 : Lib.nDigits u ≤ 20 := by have := Lib.numDigits_eq u hu1 hu64; split at this <;> omega
  have hal : Tryz.prog.arrayLen 225 = 24 := by simp [Program.arrayLen, Tryz.underlying225]
  have hsl1 : ∀ W, (Instr.sliceAt 225 (.pointer (some ⟨w.heap.size, 0, none⟩)) none (some (.int .i64 (Lib.nDigits u : Int))) none).run Tryz.prog W = .ok (.slice (some ⟨w.heap.size, 0, none⟩) (Lib.nDigits u) 24) W := fun W => by
    rw [run_sliceAt_array_h W 225 ⟨w.heap.size, 0, none⟩ (by simp [Program.arrayLen, Program.elem, Tryz.underlying225]) .i64 (Lib.nDigits u : Int) (by omega) (by rw [hal]; omega)]
    go_simp
  have hH0 := hz0 w 225 (Lib.nDigits u) (by omega)
  have hfmt := Tryz.internal_strconv_formatBase10 w.heap.size 0 24 u (Array.replicate (Lib.nDigits u) 0) (w.alloc (.cells Lib.zeros24 225)) hH0 (by rw [Array.size_replicate]; exact Lib.lt_pow_nDigits u) hu64 (by rw [Array.size_replicate]; omega)
  rw [Array.size_replicate] at hfmt
  have HH0 := Lib.hid hH0
  clear hH0 hal
  go_enter Tryz.func166, Tryz.ntmps166
  go_wp2_with (first
    | (go_at_call 174; refine (Tryz.internal_strconv_numDigits u hu1 hu64 _ (Lib.tabIs_alloc htab _)).mono ?_; rintro e w' ⟨rfl, rfl⟩))
  go_at_call 175
  refine hfmt.mono ?_
  rintro e w' ⟨rfl, k, v', dk, rfl, hF⟩
  have hcv : (convert 22 9 (.slice (some ⟨w.heap.size, 0, none⟩) (Lib.nDigits u) 24)).run Tryz.prog ((putRow (fun (b : UInt8) => Value.int .u8 (b.toNat : Int)) (w.alloc (.cells Lib.zeros24 225)) w.heap.size 0 dk).drewN k) = .ok (.string ⟨(Lib.decDigits u).toArray⟩) ((putRow (fun (b : UInt8) => Value.int .u8 (b.toNat : Int)) (w.alloc (.cells Lib.zeros24 225)) w.heap.size 0 dk).drewN k) := by
    have h := run_convert_bytes_back (P := Tryz.prog) ((putRow (fun (b : UInt8) => Value.int .u8 (b.toNat : Int)) (w.alloc (.cells Lib.zeros24 225)) w.heap.size 0 dk).drewN k) 22 9 5 ⟨w.heap.size, 0, none⟩ 24 (Lib.decDigits u) Tryz.underlying22 Tryz.underlying5 Tryz.underlying9 (fun j hj => by
      rw [Lib.row_is_numeral hF j hj, Lib.add_plain, World.cell?_drewN]
      exact cell?_putRow (fun (b : UInt8) => Value.int .u8 (b.toNat : Int)) _ w.heap.size 0 _ dk HH0.out (by rw [hF.size, Array.size_replicate]) j (by rw [hF.size]; rw [Lib.decDigits_length] at hj; exact hj))
    rw [Lib.decDigits_length] at h
    exact h
  go_wp2
  go_ret
  obtain ⟨os, eo⟩ := fin0 w (.cells Lib.zeros24 225) dk k
  exact ⟨rfl, k, os, eo⟩
end Go.Proofs

set_option linter.unusedVariables false
set_option linter.unusedSimpArgs false
set_option maxRecDepth 100000
set_option maxHeartbeats 2000000
namespace Go.Vd
open Go.Proofs
theorem grow_ext (w : World) (k : Nat) (os : Array Obj) : Ext w (Go.Sort.grow (w.drewN k) os) := by
  refine ⟨rfl, rfl, rfl, ?_, fun b hb _ => ?_⟩
  · simp [Go.Sort.grow]
  · simp [Go.Sort.grow, Array.getElem?_append, hb]
theorem gTab : Tryz.prog.globalNamed "internal/strconv.uint64pow10" = some 2 := by kernel_rfl
/-- The table, from what is known of the package's variables. -/
theorem tab_of {w : World} {rw : Nat → Prop} (h : GlOk gl0 w rw) : Lib.TabIs Tryz.prog w "internal/strconv.uint64pow10" .u64 Lib.pow10Tab := by
  obtain ⟨⟨cs, t, b, hc, hs⟩, _⟩ := h.2 2 20 _ rfl
  have h1 := h.1 2 (fun _ => undef) fun _ => False
  unfold Lib.TabIs World.var?
  rw [gTab]
  simp only [Option.bind_some, hc, Option.some.injEq]
  apply Array.ext
  · rw [hs]; simp [Lib.pow10Tab_length]
  · intro j hj _
    rw [hs] at hj
    have h2 : w.cell? ⟨2, j, none⟩ = some (.int .u64 (Lib.pow10Tab.getD j 0)) := by
      generalize hg : gl0 2 = s at h1
      generalize hv : Value.pointer (some ⟨2, 0, none⟩) = pv at h1
      cases h1 with
      | rop a k f g hsp hcc hr =>
        have e2 : (SV.rop 20 fun j => .int .u64 (Lib.pow10Tab.getD j 0)) = .rop k f := hg
        cases e2
        cases hv
        have e3 := (hcc j hj).1
        have e4 := hr j hj
        have e5 : g j = .int .u64 (Lib.pow10Tab.getD j 0) := by
          generalize g j = v at e4
          cases e4 with
          | int => rfl
        rw [Lib.add_plain, Nat.zero_add, e5] at e3
        exact e3
      | _ => exact absurd (show (SV.rop 20 fun j => .int .u64 (Lib.pow10Tab.getD j 0)) = _ from hg) (by intro e; cases e)
    have h3 : cs[j]? = some (.int .u64 (Lib.pow10Tab.getD j 0)) := by
      unfold World.cell? at h2
      rw [hc] at h2
      exact h2
    have hjs : j < cs.size := by omega
    rw [Array.getElem?_eq_getElem hjs] at h3
    rw [Option.some.inj h3, List.getD_eq_getElem?_getD, List.getElem?_eq_getElem (by rw [Lib.pow10Tab_length]; exact hj)]
    simp
theorem dec_small {k : Nat} (h : k < 10) : Lib.decDigits k = [dC k] := by rw [Lib.decDigits, dif_pos h]; rfl
theorem ba_eta (s : ByteArray) : (⟨s.data.toList.toArray⟩ : ByteArray) = s := by cases s; simp
theorem good_FmtU (u : Nat) (hu : u < 18446744073709551616) : GoodP Tryz.prog gl0 146 [.int .u64 (u : Int), .int .i64 10] (.str (std.ts fun _ => Lib.decDigits u)) := by
  intro w ρ rw N vs hfr hrw hg hargs
  match vs, hargs with
  | [v1, v2], ⟨r1, r2, _⟩ =>
    generalize hs1 : SV.int .u64 (u : Int) = s1 at r1
    generalize hs2 : SV.int .i64 10 = s2 at r2
    cases r1 with
    | int kk n =>
      cases r2 with
      | int kk2 n2 =>
        cases hs1
        cases hs2
        have hpost : Calls Tryz.prog 166 #[.int .u64 (u : Int), .int .i64 10] w fun e w' => e = .returned (.string ⟨(Lib.decDigits u).toArray⟩) ∧ Ext w w' := by
          by_cases h : u < 100
          · refine (fmtU_small u h w).mono fun e w' hq => ?_
            obtain ⟨rfl, rfl⟩ := hq
            exact ⟨rfl, Keep.refl _ _⟩
          · refine (fmtU_big u (by omega) hu w (tab_of hg)).mono fun e w' hq => ?_
            obtain ⟨rfl, k, os, rfl⟩ := hq
            exact ⟨rfl, grow_ext w k os⟩
        have hall : Calls Tryz.prog 146 #[.int .u64 (u : Int), .int .i64 10] w fun e w' => e = .returned (.string ⟨(Lib.decDigits u).toArray⟩) ∧ Ext w w' := by
          go_enter Tryz.func146, Tryz.ntmps146
          go_wp2_with (go_at_call 166; refine hpost.mono ?_; rintro e w' ⟨rfl, hx⟩)
          go_ret
          exact ⟨rfl, hx⟩
        refine hall.mono fun e w' hq => ?_
        obtain ⟨rfl, hx⟩ := hq
        refine ⟨_, rfl, hx, fun key _ => ?_⟩
        have h : Rel w' ρ rw N (.string ⟨(Lib.decDigits u).toArray⟩) (.str (Lib.decDigits u).toArray.toList) := Rel.str _
        rw [List.toList_toArray] at h
        exact h
      | _ => cases hs2
    | _ => cases hs1
theorem good_Repeat (L : List UInt8) (c : Nat) (hc : c ≤ 1000 ∧ L.length ≤ 1000) : GoodP Tryz.prog gl0 144 [.str L, .int .i64 (c : Int)] (.str (std.ts fun _ => Lib.repeatL L c)) := by
  intro w ρ rw N vs hfr hrw hg hargs
  match vs, hargs with
  | [v1, v2], ⟨r1, r2, _⟩ =>
    generalize hs1 : SV.str L = s1 at r1
    generalize hs2 : SV.int .i64 (c : Int) = s2 at r2
    cases r1 with
    | str s =>
      cases r2 with
      | int kk2 n2 =>
        cases hs1
        cases hs2
        have hl : s.size ≤ 1000 := by have h9 := hc.2; rw [Array.length_toList] at h9; exact h9
        have hm : s.size * c ≤ 1000 * 1000 := Nat.mul_le_mul hl hc.1
        refine (Tryz.strings_Repeat s c w (by omega) (by omega)).mono fun e w' hq => ?_
        obtain ⟨rfl, hb⟩ := hq
        refine ⟨_, rfl, Ext.of_below hb, fun key _ => ?_⟩
        have h : Rel w' ρ rw N (.string ⟨(Lib.repeatL s.data.toList c).toArray⟩) (.str (Lib.repeatL s.data.toList c).toArray.toList) := Rel.str _
        rw [List.toList_toArray] at h
        exact h
      | _ => cases hs2
    | _ => cases hs1
theorem good_FmtU' (u : Int) (hu : 0 ≤ u ∧ u < 18446744073709551616) : GoodP Tryz.prog gl0 146 [.int .u64 u, .int .i64 10] (.str (std.ts fun _ => Lib.decDigits u.toNat)) := by
  obtain ⟨m, rfl⟩ : ∃ m : Nat, u = m := ⟨u.toNat, by omega⟩
  exact good_FmtU m (by omega)
theorem good_Repeat' (L : List UInt8) (c : Int) (hc : 0 ≤ c ∧ c ≤ 1000 ∧ L.length ≤ 1000) : GoodP Tryz.prog gl0 144 [.str L, .int .i64 c] (.str (std.ts fun _ => Lib.repeatL L c.toNat)) := by
  obtain ⟨m, rfl⟩ : ∃ m : Nat, c = m := ⟨c.toNat, by omega⟩
  exact good_Repeat L m ⟨by omega, hc.2.2⟩
noncomputable def c_FmtU : Ct := fun A args => match args with
  | [.int .u64 u, .int .i64 10] => some (some (A.tp fun _ => 0 ≤ u ∧ u < 18446744073709551616), .str (A.ts fun _ => Lib.decDigits u.toNat))
  | _ => none
noncomputable def c_Repeat : Ct := fun A args => match args with
  | [.str L, .int .i64 c] => some (some (A.tp fun _ => 0 ≤ c ∧ c ≤ 1000 ∧ L.length ≤ 1000), .str (A.ts fun _ => Lib.repeatL L c.toNat))
  | _ => none
noncomputable def c_gFine : Ct := fun A args => match args with
  | [.str L] => some (some (A.tp fun _ => L.length ≤ 100000), .bool (A.tb fun _ => lFine L))
  | _ => none
noncomputable def c_rFine : Ct := fun A args => match args with
  | [.str L] => some (some (A.tp fun _ => L.length ≤ 100000), .bool (A.tb fun _ => lFine L))
  | _ => none
noncomputable def gg3 : Ar → Pu := addC 146 c_FmtU (addC 144 c_Repeat (addC 61 c_gFine (addC 67 c_rFine (gg2))))
theorem gg3_ok : PuOk Tryz.prog gl0 (gg3 std) := by
  refine addC_ok (addC_ok (addC_ok (addC_ok (gg2_ok) ⟨_, Tryz.func67, rfl, by decide⟩ ?_) ⟨_, Tryz.func61, rfl, by decide⟩ ?_) ⟨_, Tryz.func144, rfl, by decide⟩ ?_) ⟨_, Tryz.func146, rfl, by decide⟩ ?_
  · intro args p r h hp
    unfold c_rFine at h
    split at h <;> cases h
    exact good_rFine _ hp
  · intro args p r h hp
    unfold c_gFine at h
    split at h <;> cases h
    exact good_gFine _ hp
  · intro args p r h hp
    unfold c_Repeat at h
    split at h <;> cases h
    exact good_Repeat' _ _ hp
  · intro args p r h hp
    unfold c_FmtU at h
    split at h <;> cases h
    exact good_FmtU' _ hp
def chS (L : List UInt8) : List UInt8 := if isD L = true then [dC (lCheck L)] else []
def chE (L : List UInt8) : Int := if isD L = true then 0 else 3
theorem ch1 {L : List UInt8} (h : isD L = true) : chS L = [dC (lCheck L)] ∧ chE L = 0 := ⟨if_pos h, if_pos h⟩
theorem ch0 {L : List UInt8} (h : isD L = false) : chS L = [] ∧ chE L = 3 := by
  unfold chS chE; rw [h]; exact ⟨rfl, rfl⟩
theorem ck_eq (n : Nat) : ((IntKind.i64.wrap (10 - (n : Int).tmod 10)).tmod 10) = (((10 - n % 10) % 10 : Nat) : Int) := by
  rw [Int.tmod_eq_emod_of_nonneg (by omega : (0:Int) ≤ n), w64 (by omega), Int.tmod_eq_emod_of_nonneg (by omega)]
  omega
theorem repl_eq : ∀ n, Lib.repeatL [48] n = List.replicate n (48 : UInt8)
  | 0 => rfl
  | n + 1 => by rw [Lib.repeatL, repl_eq n]; rfl
theorem decs_zero : ∀ n, decs n 0 = List.replicate n (48 : UInt8)
  | 0 => rfl
  | n + 1 => by
    rw [decs, Nat.zero_div, decs_zero n, List.replicate_succ']
    rfl
theorem nd_le : ∀ (n u : Nat), 1 ≤ n → u < 10 ^ n → Lib.nDigits u ≤ n
  | 0, _, h, _ => absurd h (by omega)
  | n + 1, u, _, h => by
    by_cases h1 : u < 10
    · rw [Lib.nDigits_small h1]; omega
    · rw [Lib.nDigits_big h1]
      rw [Nat.pow_succ] at h
      have h2 : u / 10 < 10 ^ n := by omega
      have h3 : 1 ≤ n := by
        rcases Nat.eq_zero_or_pos n with h4 | h4
        · subst h4; simp at h2; omega
        · exact h4
      have := nd_le n (u / 10) h3 h2
      omega
theorem nd_iff {n u : Nat} (hn : 1 ≤ n) : Lib.nDigits u ≤ n ↔ u < 10 ^ n :=
  ⟨fun h => Nat.lt_of_lt_of_le (Lib.lt_pow_nDigits u) (Nat.pow_le_pow_right (by omega) h), nd_le n u hn⟩
theorem rep_decs : ∀ (n u : Nat), 1 ≤ n → u < 10 ^ n → Lib.repeatL [48] (n - Lib.nDigits u) ++ Lib.decDigits u = decs n u
  | 0, _, h, _ => absurd h (by omega)
  | n + 1, u, _, h => by
    by_cases h1 : u < 10
    · rw [Lib.nDigits_small h1, Lib.decDigits, dif_pos h1, decs, Nat.div_eq_of_lt h1, decs_zero, repl_eq, Nat.mod_eq_of_lt h1]
      rfl
    · rw [Nat.pow_succ] at h
      have h2 : u / 10 < 10 ^ n := by omega
      have h3 : 1 ≤ n := by
        rcases Nat.eq_zero_or_pos n with h4 | h4
        · subst h4; simp at h2; omega
        · exact h4
      rw [Lib.nDigits_big h1, Lib.decDigits, dif_neg h1, decs, Nat.add_sub_add_right, ← List.append_assoc, rep_decs n (u / 10) h3 h2]
def puS (v n : Int) : List UInt8 := if n < 1 ∨ 19 < n then [] else if 10 ^ n.toNat ≤ v.toNat then [] else decs n.toNat v.toNat
def puE (v n : Int) : Int := if n < 1 ∨ 19 < n then 1 else if 10 ^ n.toNat ≤ v.toNat then 10 else 0
theorem pu1 {v n : Int} (h : n < 1 ∨ 19 < n) : puS v n = [] ∧ puE v n = 1 := ⟨if_pos h, if_pos h⟩
theorem pu2 {v n : Int} (h : ¬(n < 1 ∨ 19 < n)) (h2 : 10 ^ n.toNat ≤ v.toNat) : puS v n = [] ∧ puE v n = 10 := by
  unfold puS puE; rw [if_neg h, if_neg h, if_pos h2, if_pos h2]; exact ⟨rfl, rfl⟩
theorem pu3 {v n : Int} (h : ¬(n < 1 ∨ 19 < n)) (h2 : ¬10 ^ n.toNat ≤ v.toNat) : puS v n = decs n.toNat v.toNat ∧ puE v n = 0 := by
  unfold puS puE; rw [if_neg h, if_neg h, if_neg h2, if_neg h2]; exact ⟨rfl, rfl⟩
theorem pl_iff {v n : Int} (h : ¬(n < 1 ∨ 19 < n)) : ((Lib.decDigits v.toNat).length : Int) ≤ n ↔ ¬10 ^ n.toNat ≤ v.toNat := by
  rw [Lib.decDigits_length]
  have := nd_iff (n := n.toNat) (u := v.toNat) (by omega)
  rw [Nat.not_le, ← this]
  omega
theorem rl_len (n : Nat) : (Lib.repeatL [48] n).length = n := by rw [repl_eq, List.length_replicate]
theorem pu_fin {v n : Int} (h : ¬(n < 1 ∨ 19 < n)) (hc : ((Lib.decDigits v.toNat).length : Int) ≤ n) : Lib.repeatL [48] (IntKind.i64.wrap (n - ((Lib.decDigits v.toNat).length : Int))).toNat ++ Lib.decDigits v.toNat = puS v n := by
  rw [(pu3 h ((pl_iff h).1 hc)).1, ← rep_decs n.toNat v.toNat (by omega) (Nat.not_le.1 ((pl_iff h).1 hc)), w64 (by omega), ← Lib.decDigits_length]
  congr 2
  omega
theorem good_gPut (v n : Int) (hv : 0 ≤ v ∧ v < 18446744073709551616) (hn : -9223372036854775808 ≤ n ∧ n < 9223372036854775808) : GoodP Tryz.prog gl0 109 [.int .u64 v, .int .i64 n] (.tup [.str (std.ts fun _ => puS v n), .int .i64 (std.ti fun _ => puE v n)]) := by
  refine fn_sound' (T := seatT) (G := gg3) (X := noX) seatT_ok gg3_ok noX_ok noI_ok mixed Tryz.func109 (.one) (fun A => [.int .u64 v, .int .i64 n]) (fun A => .tup [.str (A.ts fun _ => puS v n), .int .i64 (A.ti fun _ => puE v n)]) fun A hA => ?_
  cbv
  repeat' (first | with_reducible exact True.intro | with_reducible exact dr_ok hA (by kernel_rfl) | with_reducible refine And.intro ?_ ?_ | (intro hc; cbv))
  all_goals (subst hA; simp [std_add, std_sub, std_mul, std_quo, std_rem, std_band, std_bor, std_bxor, std_shl, std_shr, std_eq, std_ne, std_lt, std_le, std_conv, std_not, std_beq, std_bne, std_ite, std_want, std_and2, std_sadd, std_seq, std_sne, std_slt, std_sle, std_sgt, std_sge, std_slen, std_sget, std_scut, std_ofNat, std_toNat, std_nsub, std_nadd, std_lenOf, std_nz, std_nneg, std_inb, std_upto, std_slt63, std_grow, std_imp, std_impN, std_tr, std_tb, std_ti, std_ts, std_tn, std_tp, std_nmin, std_makes, std_room, std_zeros, std_nilq, std_notq, std_eqi, std_eqn, std_eqb, std_eqs, std_eqv, std_cat, std_lst, std_rset, std_rcopy, std_shift, std_eqr, std_strOf, std_bytesOf, std_isB, std_zOf, zOf_int, std_isI, isI_int, std_getL, std_nmul, std_sOf, sOf_str, std_isS, isS_str, std_fadd, std_fsub, std_fav, std_fsv, std_feq, std_fne, std_flt, std_fle, std_fgt, std_fge, std_fOf, std_fTo, std_fTv] at *)
  all_goals first
    | exact (pu1 hc).1
    | exact (pu1 hc).2.symm
    | exact hv
    | (have h : ¬(n < 1 ∨ 19 < n) := by omega
       have hl := pl_iff (v := v) h
       first
         | exact (pu2 h (by omega)).1
         | exact (pu2 h (by omega)).2.symm
         | exact pu_fin h hc
         | exact (pu3 h (hl.1 hc)).2.symm
         | (rw [w64 (by omega)]; constructor <;> omega)
         | (rw [rl_len, w64 (by omega)]; omega))
    | trace_state
theorem rep1 {d : Nat} (h : d < 256) : Reps eB 0 1 1 (lstS [[SV.int .u8 (d : Int)]]) [UInt8.ofNat d] := by
  refine ⟨rfl, fun i j hi hj => .of_eq ?_⟩
  obtain rfl : i = 0 := by omega
  obtain rfl : j = 0 := by omega
  show SV.int .u8 (d : Int) = SV.int .u8 (((UInt8.ofNat d).toNat : Nat) : Int)
  rw [UInt8.toNat_ofNat_of_lt' (by simpa using h)]
theorem so1 {d : Nat} (h : d < 256) : strOfS 1 (lstS [[SV.int .u8 (d : Int)]]) = [UInt8.ofNat d] := strOf_row (rep1 h)
theorem ib1 {d : Nat} (h : d < 256) : isBS 1 (lstS [[SV.int .u8 (d : Int)]]) := isB_row (rep1 h)
theorem chk_hit {L : List UInt8} {d : Nat} (hk : isD L = true) (hd : 48 ≤ d ∧ d ≤ 57) (h : lFine (L ++ [UInt8.ofNat d]) = true) : [UInt8.ofNat d] = chS L := by
  have e : UInt8.ofNat d = dC (d - 48) := by unfold dC; rw [show 48 + (d - 48) = d by omega]
  rw [e, lFine_snoc hk (by omega), decide_eq_true_eq] at h
  rw [e, h, (ch1 hk).1]
theorem chk_end {L : List UInt8} (hk : isD L = true) (hf : ∀ j, 48 ≤ j → j < 57 → lFine (L ++ [UInt8.ofNat j]) = false) : [57] = chS L := by
  have hc : lCheck L < 10 := Nat.mod_lt _ (by omega)
  rw [(ch1 hk).1]
  by_cases h9 : lCheck L = 9
  · rw [h9]; rfl
  · have := hf (48 + lCheck L) (by omega) (by omega)
    have h2 := lFine_snoc hk hc
    unfold dC at h2
    rw [this] at h2
    simp at h2
end Go.Vd

set_option linter.unusedVariables false
set_option linter.unusedSimpArgs false
set_option maxRecDepth 100000
set_option maxHeartbeats 2000000
namespace Go.Vd
open Go.Proofs
theorem decs_push : ∀ (n v : Nat), UInt8.ofNat (48 + v / 10 ^ n % 10) :: decs n v = decs (n + 1) v
  | 0, v => by simp [decs]
  | n + 1, v => by
    have e := decs_push n (v / 10)
    show UInt8.ofNat (48 + v / 10 ^ (n + 1) % 10) :: (decs n (v / 10) ++ [UInt8.ofNat (48 + v % 10)]) = decs (n + 1) (v / 10) ++ [UInt8.ofNat (48 + v % 10)]
    rw [← e, Nat.div_div_eq_div_mul, Nat.pow_succ, Nat.mul_comm 10]
    rfl
theorem cvb (q : Nat) : IntKind.u8.wrap (IntKind.u64.wrap (48 + (q : Int).tmod 10)) = ((48 + q % 10 : Nat) : Int) := by
  rw [Int.tmod_eq_emod_of_nonneg (by omega), wU64' (by omega), wU8' (by omega)]
  omega
theorem so1q (q : Nat) : strOfS 1 (lstS [[SV.int .u8 ((48 + q % 10 : Nat) : Int)]]) = [UInt8.ofNat (48 + q % 10)] := so1 (by omega)
theorem ib1q (q : Nat) : isBS 1 (lstS [[SV.int .u8 ((48 + q % 10 : Nat) : Int)]]) := ib1 (by omega)
theorem q_lt {V i : Nat} (h : V < 18446744073709551616) : V / 10 ^ i < 18446744073709551616 := Nat.lt_of_le_of_lt (Nat.div_le_self _ _) h
theorem q_step (V i : Nat) : V / 10 ^ i / 10 = V / 10 ^ (i + 1) := by rw [Nat.div_div_eq_div_mul, Nat.pow_succ]
theorem q_end (V n : Nat) : V / 10 ^ n = 0 ↔ ¬10 ^ n ≤ V := by
  rw [Nat.div_eq_zero_iff, Nat.not_le]
  have : 0 < 10 ^ n := Nat.pow_pos (by omega)
  omega
theorem so1z (q : Nat) : strOfS 1 (lstS [[SV.int .u8 (48 + (q : Int) % 10)]]) = [UInt8.ofNat (48 + q % 10)] := by
  have h := so1q q
  rw [show ((48 + q % 10 : Nat) : Int) = 48 + (q : Int) % 10 by omega] at h
  exact h
theorem ib1z (q : Nat) : isBS 1 (lstS [[SV.int .u8 (48 + (q : Int) % 10)]]) := by
  have h := ib1q q
  rw [show ((48 + q % 10 : Nat) : Int) = 48 + (q : Int) % 10 by omega] at h
  exact h
theorem pu_end {V i q : Nat} {n : Int} {S : List UInt8} (hk : ¬(n < 1 ∨ 19 < n)) (hq : q = V / 10 ^ i) (hS : S = decs i V) (hin : (i : Int) = n) : (¬q = 0 → puS (V : Int) n = [] ∧ puE (V : Int) n = 10) ∧ (q = 0 → puS (V : Int) n = S ∧ puE (V : Int) n = 0) := by
  have hi : i = n.toNat := by omega
  have hz := q_end V n.toNat
  rw [hi] at hq hS
  have hV : ((V : Int)).toNat = V := Int.toNat_natCast V
  constructor
  · intro h
    refine pu2 hk ?_
    rw [hV]
    rw [hq] at h
    omega
  · intro h
    rw [hq] at h
    have h3 := pu3 (v := (V : Int)) hk (by rw [hV]; exact hz.1 h)
    rw [hV] at h3
    rw [hS]
    exact h3
theorem e1_q {q q' : Nat} (h : q < 18446744073709551616) (e : q' = q / 10) : IntKind.u64.wrap ((q : Int) / 10) = (q' : Int) := by
  rw [wU64' (n := (q : Int) / 10) (by omega)]; omega
theorem e2_q {i i' : Nat} {n : Int} (h : (i : Int) < n) (hn : n ≤ 19) (e : i' = i + 1) : IntKind.i64.wrap ((i : Int) + 1) = (i' : Int) := by
  rw [w64 (n := (i : Int) + 1) (by omega)]; omega
theorem good_rPut (V : Nat) (n : Int) (hv : V < 18446744073709551616) (hn : -9223372036854775808 ≤ n ∧ n < 9223372036854775808) : GoodP Tryz.prog gl0 154 [.int .u64 (V : Nat), .int .i64 n] (.tup [.str (std.ts fun _ => puS (V : Int) n), .int .i64 (std.ti fun _ => puE (V : Int) n)]) := by
  refine fn_sound' (T := seatT) (G := gg3) (X := noX) seatT_ok gg3_ok noX_ok noI_ok mixed Tryz.func154 (.one) (fun A => [.int .u64 (V : Nat), .int .i64 n]) (fun A => .tup [.str (A.ts fun _ => puS (V : Int) n), .int .i64 (A.ti fun _ => puE (V : Int) n)]) fun A hA => ?_
  cbv
  repeat' (first | with_reducible exact True.intro | with_reducible exact dr_ok hA (by kernel_rfl) | with_reducible refine And.intro ?_ ?_ | (intro hc; cbv))
  rotate_right
  · have hk : ¬(n < 1 ∨ 19 < n) := by
      subst hA
      simp [sS] at hc
      omega
    clear hc
    refine ⟨⟨{p : Nat × Nat × List UInt8 // (p.1 : Int) ≤ n ∧ p.2.1 = V / 10 ^ p.1 ∧ p.2.2 = decs p.1 V}, fun b p => [(0, .int .u64 (p.1.2.1 : Nat)), (6, .str p.1.2.2), (7, .int .i64 (p.1.1 : Nat))], fun b p => [], fun p => n.toNat - p.1.1, true⟩, ⟨⟨(0, V, []), by omega, by simp, rfl⟩, ?_⟩, ?_⟩
    · cbv
      subst hA
      simp [-List.getD_eq_getElem?_getD, sS]
    · rintro ⟨⟨i, q, S⟩, hi, hq, hS⟩
      simp only at hi hq hS
      have hq8 : q < 18446744073709551616 := by rw [hq]; exact q_lt hv
      have hSl : S.length = i := by rw [hS, decs_len]
      cbv
      repeat' (first | with_reducible exact True.intro | with_reducible exact dr_ok hA (by kernel_rfl) | with_reducible refine And.intro ?_ ?_ | (intro hc; cbv))
      all_goals first
        | (fail_if_success (refine Exists.intro ?_ ?_)
           subst hA
           simp [sS, cvb, so1z q, ib1z q, hSl] at hc ⊢ <;> first
             | omega
             | skip)
        | skip
      all_goals (try (rename_i c2; have c3 : n ≤ (i : Int) := (by simp [sS] at c2; exact c2); have hE := pu_end hk hq hS (Int.le_antisymm hi c3); first | exact (hE.1 hc).1 | exact (hE.1 hc).2.symm | exact (hE.2 hc).1.symm | exact (hE.2 hc).2.symm))
      have hlt : (i : Int) < n := by
        subst hA
        simp [sS] at hc
        exact hc
      obtain ⟨i', hi'⟩ : ∃ i', i' = i + 1 := ⟨_, rfl⟩
      obtain ⟨q', hq'⟩ : ∃ q', q' = q / 10 := ⟨_, rfl⟩
      have e1 : IntKind.u64.wrap ((q : Int) / 10) = (q' : Int) := e1_q hq8 hq'
      have e2 : IntKind.i64.wrap ((i : Int) + 1) = (i' : Int) := e2_q (n := n) hlt (by omega) hi'
      obtain ⟨S', hS'⟩ : ∃ S', S' = UInt8.ofNat (48 + q % 10) :: S := ⟨_, rfl⟩
      refine ⟨⟨(i', q', S'), by (show (i' : Int) ≤ n); omega, by (show q' = V / 10 ^ i'); rw [hq', hq, hi', q_step], by (show S' = decs i' V); rw [hS', hi', hS, hq, decs_push]⟩, ?_, show n.toNat - i' < n.toNat - i by omega⟩
      cbv
      subst hA
      simp [-UInt8.ofNat_add, sS, cvb, so1z q]
      first
        | exact ⟨e1, hS'.symm, e2⟩
        | (rw [hS']; exact ⟨e1, rfl, e2⟩)
  all_goals (subst hA; simp [sS] at *)
  all_goals first
    | exact (pu1 hc).1
    | exact (pu1 hc).2.symm
    | trace_state
end Go.Vd

set_option linter.unusedVariables false
set_option linter.unusedSimpArgs false
set_option maxRecDepth 100000
set_option maxHeartbeats 2000000
namespace Go.Vd
open Go.Proofs
theorem good_rPut' (v n : Int) (hv : 0 ≤ v ∧ v < 18446744073709551616) (hn : -9223372036854775808 ≤ n ∧ n < 9223372036854775808) : GoodP Tryz.prog gl0 154 [.int .u64 v, .int .i64 n] (.tup [.str (std.ts fun _ => puS v n), .int .i64 (std.ti fun _ => puE v n)]) := by
  obtain ⟨V, rfl⟩ : ∃ V : Nat, v = V := ⟨v.toNat, by omega⟩
  exact good_rPut V n (by omega) hn
noncomputable def c_gPut : Ct := fun A args => match args with
  | [.int .u64 v, .int .i64 n] => some (some (A.tp fun _ => (0 ≤ v ∧ v < 18446744073709551616) ∧ (-9223372036854775808 ≤ n ∧ n < 9223372036854775808)), .tup [.str (A.ts fun _ => puS v n), .int .i64 (A.ti fun _ => puE v n)])
  | _ => none
noncomputable def c_rPut : Ct := fun A args => match args with
  | [.int .u64 v, .int .i64 n] => some (some (A.tp fun _ => (0 ≤ v ∧ v < 18446744073709551616) ∧ (-9223372036854775808 ≤ n ∧ n < 9223372036854775808)), .tup [.str (A.ts fun _ => puS v n), .int .i64 (A.ti fun _ => puE v n)])
  | _ => none
noncomputable def c_gGet : Ct := fun A args => match args with
  | [.str L] => some (none, .tup [.int .u64 (A.ti fun _ => (gVal L : Int)), .int .i64 (A.ti fun _ => gErr L)])
  | _ => none
noncomputable def c_rGet : Ct := fun A args => match args with
  | [.str L] => some (none, .tup [.int .u64 (A.ti fun _ => (gVal L : Int)), .int .i64 (A.ti fun _ => gErr L)])
  | _ => none
noncomputable def gg4 : Ar → Pu := addC 109 c_gPut (addC 154 c_rPut (addC 136 c_gGet (addC 100 c_rGet (gg3))))
theorem gg4_ok : PuOk Tryz.prog gl0 (gg4 std) := by
  refine addC_ok (addC_ok (addC_ok (addC_ok (gg3_ok) ⟨_, Tryz.func100, rfl, by decide⟩ ?_) ⟨_, Tryz.func136, rfl, by decide⟩ ?_) ⟨_, Tryz.func154, rfl, by decide⟩ ?_) ⟨_, Tryz.func109, rfl, by decide⟩ ?_
  · intro args p r h hp
    unfold c_rGet at h
    split at h <;> cases h
    exact good_rGet _
  · intro args p r h hp
    unfold c_gGet at h
    split at h <;> cases h
    exact good_gGet _
  · intro args p r h hp
    unfold c_rPut at h
    split at h <;> cases h
    exact good_rPut' _ _ hp.1 hp.2
  · intro args p r h hp
    unfold c_gPut at h
    split at h <;> cases h
    exact good_gPut _ _ hp.1 hp.2
theorem aw1 : puS 42 5 = [48, 48, 48, 52, 50] ∧ puE 42 5 = 0 ∧ puE 100 2 = 10 := by decide +kernel
theorem aw2 : (gVal [48, 48, 48, 52, 50] : Int) = 42 ∧ gErr [48, 48, 48, 52, 50] = 0 := by decide +kernel
theorem aw3 : chS [55, 57, 57, 50, 55, 51, 57, 56, 55, 49] = [51] ∧ chE [55, 57, 57, 50, 55, 51, 57, 56, 55, 49] = 0 := by decide +kernel
theorem aw4 : lFine [55, 57, 57, 50, 55, 51, 57, 56, 55, 49, 51] = true ∧ lFine [55, 57, 57, 50, 55, 51, 57, 56, 55, 49, 50] = false ∧ isD [48] = true := by decide +kernel
noncomputable def gg5 : Ar → Pu := gg4
theorem gg5_ok : PuOk Tryz.prog gl0 (gg5 std) := by
  refine gg4_ok
end Go.Vd

set_option linter.unusedVariables false
set_option linter.unusedSimpArgs false
set_option maxRecDepth 100000
set_option maxHeartbeats 4000000
namespace Go.Vd
open Go.Proofs
theorem gD {L : List UInt8} {i : Nat} : L[i]?.getD 0 = L.getD i 0 := (List.getD_eq_getElem?_getD ..).symm
def FL : List Int := [2, 3, 19, 3, 1, 6, 4, 1, 12, 7, 1, 10, 11, 1, 6, 12, 1, 6, 37, 2, 12, 38, 2, 6, 39, 2, 2, 41, 2, 8, 44, 4, 25, 48, 5, 999, 49, 1, 3, 90, 1, 42, 120, 5, 999]
def dFind : List Int → Int → Option (Int × Int)
  | a :: b :: c :: r, n => if a = n then some (b, c) else dFind r n
  | _, _ => none
def dOk (n : Int) : Bool := (dFind FL n).isSome
def dKd (n : Int) : Int := ((dFind FL n).getD (0, 0)).1
def dSz (n : Int) : Int := ((dFind FL n).getD (0, 0)).2
theorem drop3 {L : List Int} {i : Nat} (h : i + 2 < L.length) : L.drop i = L.getD i 0 :: L.getD (i + 1) 0 :: L.getD (i + 2) 0 :: L.drop (i + 3) := by
  have e : ∀ {j : Nat} (hj : j < L.length), L[j] = L.getD j 0 := fun hj => by rw [List.getD_eq_getElem?_getD, List.getElem?_eq_getElem hj]; rfl
  rw [List.drop_eq_getElem_cons (by omega), List.drop_eq_getElem_cons (by omega), List.drop_eq_getElem_cons h, e, e, e]
theorem FL_len : FL.length = 45 := rfl
theorem all2_map : ∀ L : List Int, All2 (fun c x => ∀ j, j < 1 → Ceq (getAt c j) (getAt (eZ std fun _ => x) j)) (L.map fun z => [SV.int .i64 z]) L
  | [] => trivial
  | x :: l => ⟨cell_eZ x, all2_map l⟩
theorem FL_rep : Reps eZ 0 1 45 (lstS (FL.map fun z => [SV.int .i64 z])) FL := Reps.lst (all2_map FL)
theorem good_rFields  : GoodP Tryz.prog gl0 151 [] (rowS eZ 0 1 std fun _ => FL) := by
  refine fn_sound' (T := seatT) (G := noC) (X := noX) seatT_ok noC_ok noX_ok noI_ok mixed Tryz.func151 (.none) (fun A => []) (fun A => rowS eZ 0 1 A fun _ => FL) fun A hA => ?_
  cbv
  repeat' (first | with_reducible exact True.intro | with_reducible exact dr_ok hA (by kernel_rfl) | with_reducible refine And.intro ?_ ?_ | (intro hc; cbv))
  all_goals (subst hA; simp only [sS])
  · rfl
  · exact FL_rep.eqr
noncomputable def c_rFields : Ct := fun A args => match args with
  | [] => some (none, rowS eZ 0 1 A fun _ => FL)
  | _ => none
noncomputable def gh1 : Ar → Pu := addC 151 c_rFields (gg4)
theorem gh1_ok : PuOk Tryz.prog gl0 (gh1 std) := by
  refine addC_ok (gg4_ok) ⟨_, Tryz.func151, rfl, by decide⟩ ?_
  · intro args p r h hp
    unfold c_rFields at h
    split at h <;> cases h
    exact good_rFields
theorem good_rDef (n : Int) : GoodP Tryz.prog gl0 114 [.int .i64 n] (.tup [.agg [.int .i64 (std.ti fun _ => if dOk n then n else 0), .int .i64 (std.ti fun _ => dKd n), .int .i64 (std.ti fun _ => dSz n)], .bool (std.tb fun _ => dOk n)]) := by
  refine fn_sound' (T := seatT) (G := gh1) (X := noX) seatT_ok gh1_ok noX_ok noI_ok mixed Tryz.func114 (.one) (fun A => [.int .i64 n]) (fun A => .tup [.agg [.int .i64 (A.ti fun _ => if dOk n then n else 0), .int .i64 (A.ti fun _ => dKd n), .int .i64 (A.ti fun _ => dSz n)], .bool (A.tb fun _ => dOk n)]) fun A hA => ?_
  cbv
  repeat' (first | with_reducible exact True.intro | with_reducible exact dr_ok hA (by kernel_rfl) | with_reducible refine And.intro ?_ ?_ | (intro hc; cbv))
  refine ⟨⟨{p : Nat × Nat // p.1 ≤ 15 ∧ p.2 = 3 * p.1 ∧ dFind FL n = dFind (FL.drop p.2) n}, fun b p => [(5, .int .i64 (p.1.2 : Nat))], fun b p => [], fun p => 15 - p.1.1, true⟩, ⟨⟨(0, 0), by omega, rfl, rfl⟩, ?_⟩, ?_⟩
  · cbv
    subst hA
    simp [-List.getD_eq_getElem?_getD, sS]
  · rintro ⟨⟨j, i⟩, hj, hi, hd⟩
    simp only at hj hi hd
    have hL := FL_len
    cbv
    repeat' (first | with_reducible exact True.intro | with_reducible exact dr_ok hA (by kernel_rfl) | with_reducible refine And.intro ?_ ?_ | (intro hc; cbv))
    all_goals first
      | (fail_if_success (refine Exists.intro ?_ ?_)
         subst hA
         simp [-List.getD_eq_getElem?_getD, sS, hL] at *
         first
           | omega
           | (rw [w64 (by omega)]; omega)
           | (constructor <;> (rw [w64 (by omega)]; omega))
           | (have hq : FL.getD i 0 = n := by assumption
              rw [drop3 (by rw [FL_len]; omega)] at hd
              simp only [dFind, if_pos hq] at hd
              have e1 : (IntKind.i64.wrap ((i : Int) + 1)).toNat = i + 1 := by rw [w64 (by omega)]; omega
              have e2 : (IntKind.i64.wrap ((i : Int) + 2)).toNat = i + 2 := by rw [w64 (by omega)]; omega
              simp [-List.getD_eq_getElem?_getD, dOk, dKd, dSz, hd, hq, e1, e2]; done)
           | (have hie : i = 45 := by omega
              rw [hie] at hd
              have hn : dFind (FL.drop 45) n = none := rfl
              rw [hn] at hd
              simp [dOk, dKd, dSz, hd]; done)
           | trace_state)
      | (have hlt : i < 45 := by clear hd; subst hA; simp [sS, hL] at *; omega
         have h0 : ¬FL.getD i 0 = n := by subst hA; simpa [-List.getD_eq_getElem?_getD, sS] using hc
         obtain ⟨i', hi'⟩ : ∃ i', i' = i + 3 := ⟨_, rfl⟩
         rw [drop3 (by rw [hL]; omega)] at hd
         simp only [dFind, if_neg h0] at hd
         refine ⟨⟨(j + 1, i'), by omega, by omega, by rw [hi', hd]⟩, ?_, show 15 - (j + 1) < 15 - j by omega⟩
         cbv
         subst hA
         simp [sS]
         exact (w64 (by omega)).trans (by omega))
      | trace_state
theorem good_rSigns (k : Int) (r : List UInt8) (hr : r.length ≤ 1000000) : GoodP Tryz.prog gl0 115 [.int .i64 k, .str r] (.bool (std.tb fun _ => signs k r)) := by
  refine fn_sound' (T := seatT) (G := gh1) (X := noX) seatT_ok gh1_ok noX_ok noI_ok mixed Tryz.func115 (.one) (fun A => [.int .i64 k, .str r]) (fun A => .bool (A.tb fun _ => signs k r)) fun A hA => ?_
  cbv
  repeat' (first | with_reducible exact True.intro | with_reducible exact dr_ok hA (by kernel_rfl) | with_reducible refine And.intro ?_ ?_ | (intro hc; cbv))
  refine ⟨⟨{i : Nat // i ≤ r.length ∧ (r.take i).all (inS k) = true}, fun b i => [(5, .int .i64 (i.1 : Nat))], fun b i => [], fun i => r.length - i.1, true⟩, ⟨⟨0, by omega, by simp⟩, ?_⟩, ?_⟩
  · cbv
    subst hA
    simp [-List.getD_eq_getElem?_getD, sS]
  · rintro ⟨i, hi, hz⟩
    cbv
    repeat' (first | with_reducible exact True.intro | with_reducible exact dr_ok hA (by kernel_rfl) | with_reducible refine And.intro ?_ ?_ | (intro hc; cbv))
    all_goals first
      | (fail_if_success (refine Exists.intro ?_ ?_)
         subst hA
         simp [-List.getD_eq_getElem?_getD, sS, gD] at *
         done)
      | (fail_if_success (refine Exists.intro ?_ ?_)
         subst hA
         simp [-List.getD_eq_getElem?_getD, sS, gD] at *
         first
           | omega
           | (constructor <;> omega)
           | (intros; (first | omega | (refine ⟨by omega, ?_⟩; omega)))
           | (have hlt : i < r.length := by omega
              have hx : inS k (r.getD i 0) = false := by (unfold inS; split <;> simp [-List.getD_eq_getElem?_getD, isDb, okB] <;> omega)
              rw [signs, all_false hlt hx]; done)
           | (have hie : i = r.length := by omega
              subst hie
              rw [signs, List.all_eq_true]; simpa using hz)
           | trace_state)
      | (have hlt : i < r.length := by clear hz; subst hA; simp [sS] at *; omega
         have hx : inS k (r.getD i 0) = true := by
           clear hz
           subst hA
           simp [-List.getD_eq_getElem?_getD, sS, gD] at *
           unfold inS
           split <;> simp [-List.getD_eq_getElem?_getD, isDb, okB] <;> omega
         refine ⟨⟨i + 1, by omega, by rw [all_take hlt, hz, hx]; rfl⟩, ?_, show r.length - (i + 1) < r.length - i by omega⟩
         cbv
         subst hA
         simp [sS]
         exact w64 (by omega))
      | trace_state

theorem lt15 {i : Nat} (h : i < 15) : i = 0 ∨ i = 1 ∨ i = 2 ∨ i = 3 ∨ i = 4 ∨ i = 5 ∨ i = 6 ∨ i = 7 ∨ i = 8 ∨ i = 9 ∨ i = 10 ∨ i = 11 ∨ i = 12 ∨ i = 13 ∨ i = 14 := by omega
theorem good_gDef (n : Int) : GoodP Tryz.prog gl0 107 [.int .i64 n] (.tup [.agg [.int .i64 (std.ti fun _ => if dOk n then n else 0), .int .i64 (std.ti fun _ => dKd n), .int .i64 (std.ti fun _ => dSz n)], .bool (std.tb fun _ => dOk n)]) := by
  refine fn_sound' (T := seatT) (G := noC) (X := noX) seatT_ok noC_ok noX_ok noI_ok mixed Tryz.func107 (.one) (fun A => [.int .i64 n]) (fun A => .tup [.agg [.int .i64 (A.ti fun _ => if dOk n then n else 0), .int .i64 (A.ti fun _ => dKd n), .int .i64 (A.ti fun _ => dSz n)], .bool (A.tb fun _ => dOk n)]) fun A hA => ?_
  cbv
  repeat' (first | with_reducible exact True.intro | with_reducible exact dr_ok hA (by kernel_rfl) | with_reducible refine And.intro ?_ ?_ | (intro hc; cbv))
  refine ⟨⟨{i : Nat // i ≤ 15 ∧ dFind FL n = dFind (FL.drop (3 * i)) n}, fun b i => [(7, .int .i64 (i.1 : Nat))], fun b i => [], fun i => 15 - i.1, true⟩, ⟨⟨0, by omega, rfl⟩, ?_⟩, ?_⟩
  · cbv
    subst hA
    simp [-List.getD_eq_getElem?_getD, sS]
  · rintro ⟨i, hi, hd⟩
    cbv
    repeat' (first | with_reducible exact True.intro | with_reducible exact dr_ok hA (by kernel_rfl) | with_reducible refine And.intro ?_ ?_ | (intro hc; cbv))
    all_goals first
      | (fail_if_success (refine Exists.intro ?_ ?_)
         subst hA
         have hlt : i < 15 := by (clear hd; simp [sS] at *; omega)
         rcases lt15 hlt with h | h | h | h | h | h | h | h | h | h | h | h | h | h | h <;> subst h <;> first
           | (simp [sS, getAt, isI_int]; done)
           | (simp [sS, getAt] at hc ⊢; subst hc; decide)
           | trace_state)
      | (fail_if_success (refine Exists.intro ?_ ?_)
         subst hA
         have hie : i = 15 := by (simp [sS] at *; omega)
         rw [hie, show dFind (FL.drop (3 * 15)) n = none from rfl] at hd
         simp [sS, dOk, dKd, dSz, hd]; done)
      | (have hlt : i < 15 := by (clear hd; subst hA; simp [sS] at *; omega)
         obtain ⟨i', hi'⟩ : ∃ i', i' = i + 1 := ⟨_, rfl⟩
         refine ⟨⟨i', by omega, ?_⟩, ?_, show 15 - i' < 15 - i by omega⟩
         · subst hA hi'
           rw [hd]
           rcases lt15 hlt with h | h | h | h | h | h | h | h | h | h | h | h | h | h | h <;> subst h <;> simp [sS, getAt] at hc <;> simp [FL, dFind, hc]
         · cbv
           subst hA
           simp [sS]
           exact (w64 (by omega)).trans (by omega))
      | trace_state
end Go.Vd

