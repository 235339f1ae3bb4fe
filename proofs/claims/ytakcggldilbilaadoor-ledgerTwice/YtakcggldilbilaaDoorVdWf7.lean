/- Ledgers: Sum. -/
import Derived.Test.YtakcggldilbilaaDoorVdFlt2
import Derived.Test.YtakcggldilbilaaDoorVdSeat
import Derived.Test.YtakcggldilbilaaDoorVdRow2
import Derived.Lib.SmallJoins
import Derived.Test.YtakcggldilbilaaDoorRows
import Derived.Test.YtakcggldilbilaaDoorCards
import Derived.Test.YtakcggldilbilaaDoorTie
import Derived.Test.YtakcggldilbilaaDoorVdH3
import Derived.ProofKit
import Derived.LaidMore
import Derived.OpenShut
import Derived.Stop.Joined
import Derived.SevenTiedAt
import Derived.Lib.LaidTab
import Derived.Test.YtakcggldilbilaaDoorVdI1
set_option linter.unusedVariables false
set_option linter.unusedSimpArgs false
set_option maxRecDepth 100000
set_option maxHeartbeats 8000000
namespace Go.Vd
open Go.Proofs Ieee
def fA (a b : Nat) : Nat := (double.add a b).getD 0
def sumW1 (p : Nat × Nat) (e : Hld) : Nat × Nat := if e.st = 1 then (fA p.1 (FloatKind.f64.nearest e.am), fA p.2 0) else if e.st = 3 then (fA p.1 0, fA p.2 (FloatKind.f64.nearest e.am)) else p
def sumW (L : List Hld) : Nat × Nat := L.foldl sumW1 (0, 0)
def tot (z : Int) : List Hld → Int
  | [] => 0
  | e :: L => (if e.st = z then e.am else 0) + tot z L
theorem tot_snoc (z : Int) : ∀ (L : List Hld) (e : Hld), tot z (L ++ [e]) = tot z L + (if e.st = z then e.am else 0)
  | [], e => by simp [tot]
  | x :: L, e => by simp only [List.cons_append, tot, tot_snoc z L e]; omega
theorem sumW_snoc (L : List Hld) (e : Hld) : sumW (L ++ [e]) = sumW1 (sumW L) e := by unfold sumW; rw [List.foldl_append]; rfl
theorem isZ_zero : isZ 0 0 := by
  have h := read_zero false
  have e : double.word false 0 = 0 := by decide
  rw [e] at h
  obtain ⟨k, hk⟩ : ∃ k : Nat, k = 1074 := ⟨_, rfl⟩
  exact ⟨false, k, by rw [h, Int.natAbs_zero, Nat.zero_mul, hk]; rfl, by omega, by omega⟩
def amOk (e : Hld) : Prop := 0 ≤ e.am ∧ e.am < 1000000000000
theorem fA_isZ {x y : Nat} {n m : Int} (hx : isZ x n) (hy : isZ y m) (hb : (n + m).natAbs < 9007199254740992) : (double.add x y).isSome = true ∧ isZ (fA x y) (n + m) := by
  obtain ⟨z, h1, h2⟩ := isZ_add hx hy hb
  unfold fA
  rw [h1]
  exact ⟨rfl, h2⟩
theorem hsum_isZ' : ∀ (n : Nat) (L : List Hld), L.length = n → n ≤ 1000 → (∀ e ∈ L, amOk e) →
    (isZ (sumW L).1 (tot 1 L) ∧ isZ (sumW L).2 (tot 3 L)) ∧ (0 ≤ tot 1 L ∧ tot 1 L ≤ 1000000000000 * n) ∧ (0 ≤ tot 3 L ∧ tot 3 L ≤ 1000000000000 * n)
  | 0, L, hn, _, _ => by
    obtain rfl : L = [] := List.length_eq_zero_iff.1 hn
    exact ⟨⟨isZ_zero, isZ_zero⟩, by simp [tot], by simp [tot]⟩
  | n + 1, L, hn, hb, ha => by
    obtain ⟨M, e, rfl⟩ : ∃ M e, L = M ++ [e] := ⟨L.dropLast, L.getLast (by intro h; rw [h] at hn; simp at hn), (List.dropLast_concat_getLast _).symm⟩
    have hM : M.length = n := by simp at hn; exact hn
    obtain ⟨⟨h1, h2⟩, ⟨h3, h4⟩, h5, h6⟩ := hsum_isZ' n M hM (by omega) fun x hx => ha x (List.mem_append_left _ hx)
    have he := ha e (by simp)
    unfold amOk at he
    rw [sumW_snoc, tot_snoc, tot_snoc]
    unfold sumW1
    by_cases q1 : e.st = 1
    · rw [if_pos q1, if_pos q1, if_neg (by omega)]
      refine ⟨⟨(fA_isZ h1 (isZ_fOf (by omega)) (by omega)).2, (fA_isZ h2 isZ_zero (by omega)).2⟩, by omega, by omega⟩
    · by_cases q3 : e.st = 3
      · rw [if_neg q1, if_pos q3, if_neg q1, if_pos q3]
        refine ⟨⟨(fA_isZ h1 isZ_zero (by omega)).2, (fA_isZ h2 (isZ_fOf (by omega)) (by omega)).2⟩, by omega, by omega⟩
      · rw [if_neg q1, if_neg q3, if_neg q1, if_neg q3]
        refine ⟨⟨by simpa using h1, by simpa using h2⟩, by omega, by omega⟩
theorem hsum_isZ {L : List Hld} (hb : L.length ≤ 1000) (ha : ∀ e ∈ L, amOk e) : (isZ (sumW L).1 (tot 1 L) ∧ isZ (sumW L).2 (tot 3 L)) ∧ (0 ≤ tot 1 L ∧ tot 1 L ≤ 1000000000000000) ∧ (0 ≤ tot 3 L ∧ tot 3 L ≤ 1000000000000000) := by
  obtain ⟨h1, h2, h3⟩ := hsum_isZ' L.length L rfl hb ha
  exact ⟨h1, ⟨h2.1, by omega⟩, h3.1, by omega⟩
def suW (L : List Hld) : Nat × Nat := if leR L = true then sumW L else (0, 0)
theorem leR_am {L : List Hld} (h : leR L = true) (hN : ∀ e ∈ L, 0 ≤ e.am) : ∀ e ∈ L, amOk e := by
  intro e he
  have h2 := (ascB_iff L).1 (by simp only [leR, Bool.and_eq_true] at h; exact h.2)
  obtain ⟨j, hj, rfl⟩ := List.getElem_of_mem he
  have h3 := (h2 j hj).1
  rw [List.getD_eq_getElem?_getD, List.getElem?_eq_getElem hj] at h3
  simp only [Option.getD_some, hR, Bool.and_eq_true, decide_eq_true_eq] at h3
  exact ⟨hN _ he, h3.2.1⟩
theorem leR_len {L : List Hld} (h : leR L = true) : L.length ≤ 256 := by
  simp only [leR, Bool.and_eq_true, decide_eq_true_eq] at h
  exact h.1
theorem suW_yes {L : List Hld} (h : leR L = true) : suW L = sumW L := if_pos h
theorem suW_no {L : List Hld} (h : leR L = false) : suW L = (0, 0) := by unfold suW; rw [h]; rfl
theorem sum_step {L : List Hld} {i a b : Nat} {e : Hld} (hi : i < L.length) (hb : L.length ≤ 256) (ha : ∀ e ∈ L, amOk e) (he : e = L.getD i H0) (hz : (a, b) = sumW (L.take i)) :
    ((double.add a (FloatKind.f64.nearest e.am)).isSome = true ∧ (double.add b 0).isSome = true) ∧ ((double.add a 0).isSome = true ∧ (double.add b (FloatKind.f64.nearest e.am)).isSome = true) ∧
      sumW (L.take (i + 1)) = sumW1 (a, b) e := by
  have hm : e ∈ L := by rw [he, List.getD_eq_getElem?_getD, List.getElem?_eq_getElem hi]; exact List.getElem_mem hi
  obtain ⟨⟨h1, h2⟩, h3, h4⟩ := hsum_isZ (L := L.take i) (by rw [List.length_take]; omega) fun x hx => ha x (List.mem_of_mem_take hx)
  rw [← hz] at h1 h2
  have hae := ha e hm
  unfold amOk at hae
  refine ⟨⟨(fA_isZ h1 (isZ_fOf (by omega)) (by omega)).1, (fA_isZ h2 isZ_zero (by omega)).1⟩, ⟨(fA_isZ h1 isZ_zero (by omega)).1, (fA_isZ h2 (isZ_fOf (by omega)) (by omega)).1⟩, ?_⟩
  rw [← take_snoc (d := H0) hi, sumW_snoc, ← hz, ← he]
attribute [local irreducible] vc
theorem good_lSum (L : List Hld) (hL : L.length ≤ 1000000) (hN : ∀ e ∈ L, 0 ≤ e.am) : GoodP Tryd.prog gl0 67 [sL std fun _ => L] (.cpx (std.tn fun _ => (suW L).1) (std.tn fun _ => (suW L).2)) := by
  refine fn_sound' (T := seatT) (G := gy6) (X := noX) seatT_ok gy6_ok noX_ok noI_ok mixed Tryd.func67 (.one) (fun A => [sL A fun _ => L]) (fun A => .cpx (A.tn fun _ => (suW L).1) (A.tn fun _ => (suW L).2)) fun A hA => ?_
  cbv
  repeat' (first | with_reducible exact True.intro | with_reducible exact dr_ok hA (by kernel_rfl) | with_reducible refine And.intro ?_ ?_ | (intro hc; cbv))
  all_goals first
    | (fail_if_success (refine Exists.intro ?_ ?_)
       clear hN
       subst hA
       simp only [std_add, std_sub, std_mul, std_quo, std_rem, std_band, std_bor, std_bxor, std_shl, std_shr, std_eq, std_ne, std_lt, std_le, std_conv, std_not, std_beq, std_bne, std_ite, std_want, std_and2, std_sadd, std_seq, std_sne, std_slt, std_sle, std_sgt, std_sge, std_slen, std_sget, std_scut, std_ofNat, std_toNat, std_nsub, std_nadd, std_lenOf, std_nz, std_nneg, std_inb, std_upto, std_slt63, std_grow, std_imp, std_impN, std_tr, std_tb, std_ti, std_ts, std_tn, std_tp, std_nmin, std_makes, std_room, std_zeros, std_nilq, std_notq, std_eqi, std_eqn, std_eqb, std_eqs, std_eqv, std_cat, std_lst, std_rset, std_rcopy, std_shift, std_eqr, std_strOf, std_bytesOf, std_isB, std_zOf, zOf_int, std_isI, isI_int, std_getL, std_nmul, std_sOf, sOf_str, std_isS, isS_str, std_fadd, std_fsub, std_fav, std_fsv, std_feq, std_fne, std_flt, std_fle, std_fgt, std_fge, std_fOf, std_fTo, std_fTv, lstOf_V, isRow_V] at *
       first
         | exact ⟨trivial, hL⟩
         | (have h1 : leR L = false := by assumption
            rw [suW_no h1]; done)
         | (have h1 : (!leR L) = true := by assumption
            simp at h1; rw [suW_no h1]; done)
         | trace_state)
    | skip
  all_goals
    have hlr : leR L = true := by
      clear hN
      subst hA
      simp only [std_add, std_sub, std_mul, std_quo, std_rem, std_band, std_bor, std_bxor, std_shl, std_shr, std_eq, std_ne, std_lt, std_le, std_conv, std_not, std_beq, std_bne, std_ite, std_want, std_and2, std_sadd, std_seq, std_sne, std_slt, std_sle, std_sgt, std_sge, std_slen, std_sget, std_scut, std_ofNat, std_toNat, std_nsub, std_nadd, std_lenOf, std_nz, std_nneg, std_inb, std_upto, std_slt63, std_grow, std_imp, std_impN, std_tr, std_tb, std_ti, std_ts, std_tn, std_tp, std_nmin, std_makes, std_room, std_zeros, std_nilq, std_notq, std_eqi, std_eqn, std_eqb, std_eqs, std_eqv, std_cat, std_lst, std_rset, std_rcopy, std_shift, std_eqr, std_strOf, std_bytesOf, std_isB, std_zOf, zOf_int, std_isI, isI_int, std_getL, std_nmul, std_sOf, sOf_str, std_isS, isS_str, std_fadd, std_fsub, std_fav, std_fsv, std_feq, std_fne, std_flt, std_fle, std_fgt, std_fge, std_fOf, std_fTo, std_fTv, lstOf_V, isRow_V] at *
      have h1 : (!leR L) = false := by assumption
      simpa using h1
    have ham := leR_am hlr hN
    have hb := leR_len hlr
    clear hN
    refine ⟨⟨{q : Nat × Nat × Nat // q.1 ≤ L.length ∧ (q.2.1, q.2.2) = sumW (L.take q.1)}, fun b q => [(3, .cpx q.1.2.1 q.1.2.2), (12, .int .i64 (q.1.1 : Nat))], fun b i => [], fun q => L.length - q.1.1, true⟩, ⟨⟨(0, 0, 0), by simp, rfl⟩, ?_⟩, ?_⟩
    · cbv
      subst hA
      simp [-List.getD_eq_getElem?_getD, std_add, std_sub, std_mul, std_quo, std_rem, std_band, std_bor, std_bxor, std_shl, std_shr, std_eq, std_ne, std_lt, std_le, std_conv, std_not, std_beq, std_bne, std_ite, std_want, std_and2, std_sadd, std_seq, std_sne, std_slt, std_sle, std_sgt, std_sge, std_slen, std_sget, std_scut, std_ofNat, std_toNat, std_nsub, std_nadd, std_lenOf, std_nz, std_nneg, std_inb, std_upto, std_slt63, std_grow, std_imp, std_impN, std_tr, std_tb, std_ti, std_ts, std_tn, std_tp, std_nmin, std_makes, std_room, std_zeros, std_nilq, std_notq, std_eqi, std_eqn, std_eqb, std_eqs, std_eqv, std_cat, std_lst, std_rset, std_rcopy, std_shift, std_eqr, std_strOf, std_bytesOf, std_isB, std_zOf, zOf_int, std_isI, isI_int, std_getL, std_nmul, std_sOf, sOf_str, std_isS, isS_str, std_fadd, std_fsub, std_fav, std_fsv, std_feq, std_fne, std_flt, std_fle, std_fgt, std_fge, std_fOf, std_fTo, std_fTv]
    · rintro ⟨⟨i, a, b⟩, hx⟩
      have hi := hx.1
      have hz := hx.2
      simp only at hi hz
      obtain ⟨e, he⟩ : ∃ e, e = L.getD i H0 := ⟨_, rfl⟩
      have hg : L.getD i { s := 0, r := [], am := 0, st := 0 } = e := he.symm
      rcases Nat.lt_or_ge i L.length with hlt | hge
      · have hst := sum_step hlt hb ham he hz
        clear ham hz
        obtain ⟨hv1, hv2, hnx⟩ := hst
        cbv
        repeat' (first | with_reducible exact True.intro | with_reducible exact dr_ok hA (by kernel_rfl) | with_reducible refine And.intro ?_ ?_ | (intro hc; cbv))
        all_goals first
          | (fail_if_success (refine Exists.intro ?_ ?_)
             subst hA
             simp [-List.getD_eq_getElem?_getD, std_add, std_sub, std_mul, std_quo, std_rem, std_band, std_bor, std_bxor, std_shl, std_shr, std_eq, std_ne, std_lt, std_le, std_conv, std_not, std_beq, std_bne, std_ite, std_want, std_and2, std_sadd, std_seq, std_sne, std_slt, std_sle, std_sgt, std_sge, std_slen, std_sget, std_scut, std_ofNat, std_toNat, std_nsub, std_nadd, std_lenOf, std_nz, std_nneg, std_inb, std_upto, std_slt63, std_grow, std_imp, std_impN, std_tr, std_tb, std_ti, std_ts, std_tn, std_tp, std_nmin, std_makes, std_room, std_zeros, std_nilq, std_notq, std_eqi, std_eqn, std_eqb, std_eqs, std_eqv, std_cat, std_lst, std_rset, std_rcopy, std_shift, std_eqr, std_strOf, std_bytesOf, std_isB, std_zOf, zOf_int, std_isI, isI_int, std_getL, std_nmul, std_sOf, sOf_str, std_isS, isS_str, std_fadd, std_fsub, std_fav, std_fsv, std_feq, std_fne, std_flt, std_fle, std_fgt, std_fge, std_fOf, std_fTo, std_fTv, hg] at *
             first
               | done
               | exact ⟨(show (0 : Int) ≤ ((i : Nat) : Int) by omega), (show ((i : Nat) : Int) < ((L.length : Nat) : Int) by omega)⟩
               | exact hv1.1
               | exact hv1.2
               | exact hv2.1
               | exact hv2.2
               | omega
               | trace_state)
          | (obtain ⟨i', hi'⟩ : ∃ i', i' = i + 1 := ⟨_, rfl⟩
             have hw := w_succ' hi' (by omega)
             have hk : e.st = 1 := by
               clear hnx hv1 hv2
               subst hA
               simp [-List.getD_eq_getElem?_getD, std_add, std_sub, std_mul, std_quo, std_rem, std_band, std_bor, std_bxor, std_shl, std_shr, std_eq, std_ne, std_lt, std_le, std_conv, std_not, std_beq, std_bne, std_ite, std_want, std_and2, std_sadd, std_seq, std_sne, std_slt, std_sle, std_sgt, std_sge, std_slen, std_sget, std_scut, std_ofNat, std_toNat, std_nsub, std_nadd, std_lenOf, std_nz, std_nneg, std_inb, std_upto, std_slt63, std_grow, std_imp, std_impN, std_tr, std_tb, std_ti, std_ts, std_tn, std_tp, std_nmin, std_makes, std_room, std_zeros, std_nilq, std_notq, std_eqi, std_eqn, std_eqb, std_eqs, std_eqv, std_cat, std_lst, std_rset, std_rcopy, std_shift, std_eqr, std_strOf, std_bytesOf, std_isB, std_zOf, zOf_int, std_isI, isI_int, std_getL, std_nmul, std_sOf, sOf_str, std_isS, isS_str, std_fadd, std_fsub, std_fav, std_fsv, std_feq, std_fne, std_flt, std_fle, std_fgt, std_fge, std_fOf, std_fTo, std_fTv, hg] at hc
               exact hc
             obtain ⟨a', ha'⟩ : ∃ x, x = fA a (FloatKind.f64.nearest e.am) := ⟨_, rfl⟩
             obtain ⟨b', hb'⟩ : ∃ x, x = fA b 0 := ⟨_, rfl⟩
             have hinv : (a', b') = sumW (L.take i') := by rw [hi', hnx]; unfold sumW1; rw [if_pos hk, ← ha', ← hb']
             have hi'' : i' ≤ L.length := by omega
             refine ⟨⟨(i', a', b'), hi'', hinv⟩, ?_, show L.length - i' < L.length - i by omega⟩
             clear hnx hv1 hv2
             unfold fA at ha' hb'
             cbv
             subst hA
             simp [-List.getD_eq_getElem?_getD, std_add, std_sub, std_mul, std_quo, std_rem, std_band, std_bor, std_bxor, std_shl, std_shr, std_eq, std_ne, std_lt, std_le, std_conv, std_not, std_beq, std_bne, std_ite, std_want, std_and2, std_sadd, std_seq, std_sne, std_slt, std_sle, std_sgt, std_sge, std_slen, std_sget, std_scut, std_ofNat, std_toNat, std_nsub, std_nadd, std_lenOf, std_nz, std_nneg, std_inb, std_upto, std_slt63, std_grow, std_imp, std_impN, std_tr, std_tb, std_ti, std_ts, std_tn, std_tp, std_nmin, std_makes, std_room, std_zeros, std_nilq, std_notq, std_eqi, std_eqn, std_eqb, std_eqs, std_eqv, std_cat, std_lst, std_rset, std_rcopy, std_shift, std_eqr, std_strOf, std_bytesOf, std_isB, std_zOf, zOf_int, std_isI, isI_int, std_getL, std_nmul, std_sOf, sOf_str, std_isS, isS_str, std_fadd, std_fsub, std_fav, std_fsv, std_feq, std_fne, std_flt, std_fle, std_fgt, std_fge, std_fOf, std_fTo, std_fTv, hg]
             first | exact ⟨⟨ha'.symm, hb'.symm⟩, hw⟩ | trace_state)
          | (obtain ⟨i', hi'⟩ : ∃ i', i' = i + 1 := ⟨_, rfl⟩
             have hw := w_succ' hi' (by omega)
             have hk : ¬e.st = 1 ∧ e.st = 3 := by
               clear hnx hv1 hv2
               subst hA
               simp [-List.getD_eq_getElem?_getD, std_add, std_sub, std_mul, std_quo, std_rem, std_band, std_bor, std_bxor, std_shl, std_shr, std_eq, std_ne, std_lt, std_le, std_conv, std_not, std_beq, std_bne, std_ite, std_want, std_and2, std_sadd, std_seq, std_sne, std_slt, std_sle, std_sgt, std_sge, std_slen, std_sget, std_scut, std_ofNat, std_toNat, std_nsub, std_nadd, std_lenOf, std_nz, std_nneg, std_inb, std_upto, std_slt63, std_grow, std_imp, std_impN, std_tr, std_tb, std_ti, std_ts, std_tn, std_tp, std_nmin, std_makes, std_room, std_zeros, std_nilq, std_notq, std_eqi, std_eqn, std_eqb, std_eqs, std_eqv, std_cat, std_lst, std_rset, std_rcopy, std_shift, std_eqr, std_strOf, std_bytesOf, std_isB, std_zOf, zOf_int, std_isI, isI_int, std_getL, std_nmul, std_sOf, sOf_str, std_isS, isS_str, std_fadd, std_fsub, std_fav, std_fsv, std_feq, std_fne, std_flt, std_fle, std_fgt, std_fge, std_fOf, std_fTo, std_fTv, hg] at *
               first | exact ⟨by assumption, by assumption⟩ | exact ⟨by omega, by assumption⟩
             obtain ⟨a', ha'⟩ : ∃ x, x = fA a 0 := ⟨_, rfl⟩
             obtain ⟨b', hb'⟩ : ∃ x, x = fA b (FloatKind.f64.nearest e.am) := ⟨_, rfl⟩
             have hinv : (a', b') = sumW (L.take i') := by rw [hi', hnx]; unfold sumW1; rw [if_neg hk.1, if_pos hk.2, ← ha', ← hb']
             have hi'' : i' ≤ L.length := by omega
             refine ⟨⟨(i', a', b'), hi'', hinv⟩, ?_, show L.length - i' < L.length - i by omega⟩
             clear hnx hv1 hv2
             unfold fA at ha' hb'
             cbv
             subst hA
             simp [-List.getD_eq_getElem?_getD, std_add, std_sub, std_mul, std_quo, std_rem, std_band, std_bor, std_bxor, std_shl, std_shr, std_eq, std_ne, std_lt, std_le, std_conv, std_not, std_beq, std_bne, std_ite, std_want, std_and2, std_sadd, std_seq, std_sne, std_slt, std_sle, std_sgt, std_sge, std_slen, std_sget, std_scut, std_ofNat, std_toNat, std_nsub, std_nadd, std_lenOf, std_nz, std_nneg, std_inb, std_upto, std_slt63, std_grow, std_imp, std_impN, std_tr, std_tb, std_ti, std_ts, std_tn, std_tp, std_nmin, std_makes, std_room, std_zeros, std_nilq, std_notq, std_eqi, std_eqn, std_eqb, std_eqs, std_eqv, std_cat, std_lst, std_rset, std_rcopy, std_shift, std_eqr, std_strOf, std_bytesOf, std_isB, std_zOf, zOf_int, std_isI, isI_int, std_getL, std_nmul, std_sOf, sOf_str, std_isS, isS_str, std_fadd, std_fsub, std_fav, std_fsv, std_feq, std_fne, std_flt, std_fle, std_fgt, std_fge, std_fOf, std_fTo, std_fTv, hg]
             first | exact ⟨⟨ha'.symm, hb'.symm⟩, hw⟩ | trace_state)
          | (obtain ⟨i', hi'⟩ : ∃ i', i' = i + 1 := ⟨_, rfl⟩
             have hw := w_succ' hi' (by omega)
             have hk : ¬e.st = 1 ∧ ¬e.st = 3 := by
               clear hnx hv1 hv2
               subst hA
               simp [-List.getD_eq_getElem?_getD, std_add, std_sub, std_mul, std_quo, std_rem, std_band, std_bor, std_bxor, std_shl, std_shr, std_eq, std_ne, std_lt, std_le, std_conv, std_not, std_beq, std_bne, std_ite, std_want, std_and2, std_sadd, std_seq, std_sne, std_slt, std_sle, std_sgt, std_sge, std_slen, std_sget, std_scut, std_ofNat, std_toNat, std_nsub, std_nadd, std_lenOf, std_nz, std_nneg, std_inb, std_upto, std_slt63, std_grow, std_imp, std_impN, std_tr, std_tb, std_ti, std_ts, std_tn, std_tp, std_nmin, std_makes, std_room, std_zeros, std_nilq, std_notq, std_eqi, std_eqn, std_eqb, std_eqs, std_eqv, std_cat, std_lst, std_rset, std_rcopy, std_shift, std_eqr, std_strOf, std_bytesOf, std_isB, std_zOf, zOf_int, std_isI, isI_int, std_getL, std_nmul, std_sOf, sOf_str, std_isS, isS_str, std_fadd, std_fsub, std_fav, std_fsv, std_feq, std_fne, std_flt, std_fle, std_fgt, std_fge, std_fOf, std_fTo, std_fTv, hg] at *
               exact ⟨by assumption, by assumption⟩
             have hinv : (a, b) = sumW (L.take i') := by rw [hi', hnx]; unfold sumW1; rw [if_neg hk.1, if_neg hk.2]
             have hi'' : i' ≤ L.length := by omega
             refine ⟨⟨(i', a, b), hi'', hinv⟩, ?_, show L.length - i' < L.length - i by omega⟩
             clear hnx hv1 hv2
             cbv
             subst hA
             simp [-List.getD_eq_getElem?_getD, std_add, std_sub, std_mul, std_quo, std_rem, std_band, std_bor, std_bxor, std_shl, std_shr, std_eq, std_ne, std_lt, std_le, std_conv, std_not, std_beq, std_bne, std_ite, std_want, std_and2, std_sadd, std_seq, std_sne, std_slt, std_sle, std_sgt, std_sge, std_slen, std_sget, std_scut, std_ofNat, std_toNat, std_nsub, std_nadd, std_lenOf, std_nz, std_nneg, std_inb, std_upto, std_slt63, std_grow, std_imp, std_impN, std_tr, std_tb, std_ti, std_ts, std_tn, std_tp, std_nmin, std_makes, std_room, std_zeros, std_nilq, std_notq, std_eqi, std_eqn, std_eqb, std_eqs, std_eqv, std_cat, std_lst, std_rset, std_rcopy, std_shift, std_eqr, std_strOf, std_bytesOf, std_isB, std_zOf, zOf_int, std_isI, isI_int, std_getL, std_nmul, std_sOf, sOf_str, std_isS, isS_str, std_fadd, std_fsub, std_fav, std_fsv, std_feq, std_fne, std_flt, std_fle, std_fgt, std_fge, std_fOf, std_fTo, std_fTv, hg]
             first | exact hw | trace_state)
          | trace_state
      · have hie : i = L.length := by omega
        rw [hie, List.take_length] at hz
        have h1 : (suW L).1 = a := by rw [suW_yes hlr, ← hz]
        have h2 : (suW L).2 = b := by rw [suW_yes hlr, ← hz]
        clear ham hz
        cbv
        repeat' (first | with_reducible exact True.intro | with_reducible exact dr_ok hA (by kernel_rfl) | with_reducible refine And.intro ?_ ?_ | (intro hc; cbv))
        all_goals first
          | (exfalso; subst hA; simp [-List.getD_eq_getElem?_getD, std_add, std_sub, std_mul, std_quo, std_rem, std_band, std_bor, std_bxor, std_shl, std_shr, std_eq, std_ne, std_lt, std_le, std_conv, std_not, std_beq, std_bne, std_ite, std_want, std_and2, std_sadd, std_seq, std_sne, std_slt, std_sle, std_sgt, std_sge, std_slen, std_sget, std_scut, std_ofNat, std_toNat, std_nsub, std_nadd, std_lenOf, std_nz, std_nneg, std_inb, std_upto, std_slt63, std_grow, std_imp, std_impN, std_tr, std_tb, std_ti, std_ts, std_tn, std_tp, std_nmin, std_makes, std_room, std_zeros, std_nilq, std_notq, std_eqi, std_eqn, std_eqb, std_eqs, std_eqv, std_cat, std_lst, std_rset, std_rcopy, std_shift, std_eqr, std_strOf, std_bytesOf, std_isB, std_zOf, zOf_int, std_isI, isI_int, std_getL, std_nmul, std_sOf, sOf_str, std_isS, isS_str, std_fadd, std_fsub, std_fav, std_fsv, std_feq, std_fne, std_flt, std_fle, std_fgt, std_fge, std_fOf, std_fTo, std_fTv] at hc; omega)
          | (exfalso; subst hA; rename_i q; simp [-List.getD_eq_getElem?_getD, std_add, std_sub, std_mul, std_quo, std_rem, std_band, std_bor, std_bxor, std_shl, std_shr, std_eq, std_ne, std_lt, std_le, std_conv, std_not, std_beq, std_bne, std_ite, std_want, std_and2, std_sadd, std_seq, std_sne, std_slt, std_sle, std_sgt, std_sge, std_slen, std_sget, std_scut, std_ofNat, std_toNat, std_nsub, std_nadd, std_lenOf, std_nz, std_nneg, std_inb, std_upto, std_slt63, std_grow, std_imp, std_impN, std_tr, std_tb, std_ti, std_ts, std_tn, std_tp, std_nmin, std_makes, std_room, std_zeros, std_nilq, std_notq, std_eqi, std_eqn, std_eqb, std_eqs, std_eqv, std_cat, std_lst, std_rset, std_rcopy, std_shift, std_eqr, std_strOf, std_bytesOf, std_isB, std_zOf, zOf_int, std_isI, isI_int, std_getL, std_nmul, std_sOf, sOf_str, std_isS, isS_str, std_fadd, std_fsub, std_fav, std_fsv, std_feq, std_fne, std_flt, std_fle, std_fgt, std_fge, std_fOf, std_fTo, std_fTv] at q; omega)
          | (exfalso; subst hA; rename_i q q2; simp [-List.getD_eq_getElem?_getD, std_add, std_sub, std_mul, std_quo, std_rem, std_band, std_bor, std_bxor, std_shl, std_shr, std_eq, std_ne, std_lt, std_le, std_conv, std_not, std_beq, std_bne, std_ite, std_want, std_and2, std_sadd, std_seq, std_sne, std_slt, std_sle, std_sgt, std_sge, std_slen, std_sget, std_scut, std_ofNat, std_toNat, std_nsub, std_nadd, std_lenOf, std_nz, std_nneg, std_inb, std_upto, std_slt63, std_grow, std_imp, std_impN, std_tr, std_tb, std_ti, std_ts, std_tn, std_tp, std_nmin, std_makes, std_room, std_zeros, std_nilq, std_notq, std_eqi, std_eqn, std_eqb, std_eqs, std_eqv, std_cat, std_lst, std_rset, std_rcopy, std_shift, std_eqr, std_strOf, std_bytesOf, std_isB, std_zOf, zOf_int, std_isI, isI_int, std_getL, std_nmul, std_sOf, sOf_str, std_isS, isS_str, std_fadd, std_fsub, std_fav, std_fsv, std_feq, std_fne, std_flt, std_fle, std_fgt, std_fge, std_fOf, std_fTo, std_fTv] at q; omega)
          | (exfalso; subst hA; rename_i q q2 q3; simp [-List.getD_eq_getElem?_getD, std_add, std_sub, std_mul, std_quo, std_rem, std_band, std_bor, std_bxor, std_shl, std_shr, std_eq, std_ne, std_lt, std_le, std_conv, std_not, std_beq, std_bne, std_ite, std_want, std_and2, std_sadd, std_seq, std_sne, std_slt, std_sle, std_sgt, std_sge, std_slen, std_sget, std_scut, std_ofNat, std_toNat, std_nsub, std_nadd, std_lenOf, std_nz, std_nneg, std_inb, std_upto, std_slt63, std_grow, std_imp, std_impN, std_tr, std_tb, std_ti, std_ts, std_tn, std_tp, std_nmin, std_makes, std_room, std_zeros, std_nilq, std_notq, std_eqi, std_eqn, std_eqb, std_eqs, std_eqv, std_cat, std_lst, std_rset, std_rcopy, std_shift, std_eqr, std_strOf, std_bytesOf, std_isB, std_zOf, zOf_int, std_isI, isI_int, std_getL, std_nmul, std_sOf, sOf_str, std_isS, isS_str, std_fadd, std_fsub, std_fav, std_fsv, std_feq, std_fne, std_flt, std_fle, std_fgt, std_fge, std_fOf, std_fTo, std_fTv] at q; omega)
          | (subst hA
             simp [-List.getD_eq_getElem?_getD, std_add, std_sub, std_mul, std_quo, std_rem, std_band, std_bor, std_bxor, std_shl, std_shr, std_eq, std_ne, std_lt, std_le, std_conv, std_not, std_beq, std_bne, std_ite, std_want, std_and2, std_sadd, std_seq, std_sne, std_slt, std_sle, std_sgt, std_sge, std_slen, std_sget, std_scut, std_ofNat, std_toNat, std_nsub, std_nadd, std_lenOf, std_nz, std_nneg, std_inb, std_upto, std_slt63, std_grow, std_imp, std_impN, std_tr, std_tb, std_ti, std_ts, std_tn, std_tp, std_nmin, std_makes, std_room, std_zeros, std_nilq, std_notq, std_eqi, std_eqn, std_eqb, std_eqs, std_eqv, std_cat, std_lst, std_rset, std_rcopy, std_shift, std_eqr, std_strOf, std_bytesOf, std_isB, std_zOf, zOf_int, std_isI, isI_int, std_getL, std_nmul, std_sOf, sOf_str, std_isS, isS_str, std_fadd, std_fsub, std_fav, std_fsv, std_feq, std_fne, std_flt, std_fle, std_fgt, std_fge, std_fOf, std_fTo, std_fTv, h1, h2] at *
             first | done | trace_state)
          | trace_state
noncomputable def c_lSum : Ct := fun A args => match args with
  | [.agg [.slc n 4 f]] => some (some (A.tp fun _ => isRow eH H0 4 n f ∧ n ≤ 1000000 ∧ ∀ e ∈ lstOf eH H0 4 n f, 0 ≤ e.am), .cpx (A.tn fun _ => (suW (lstOf eH H0 4 n f)).1) (A.tn fun _ => (suW (lstOf eH H0 4 n f)).2))
  | _ => none
noncomputable def gy7s : Ar → Pu := addC 67 c_lSum (gy6)
theorem gy7s_ok : PuOk Tryd.prog gl0 (gy7s std) := by
  refine addC_ok (gy6_ok) ⟨_, Tryd.func67, rfl, by decide⟩ ?_
  · intro args p r h hp
    unfold c_lSum at h
    split at h <;> cases h
    exact good_sv (good_lSum _ (by rw [lstOf_length hp.1]; exact hp.2.1) hp.2.2) ⟨⟨_, rfl, hp.1.sv, trivial⟩, trivial⟩
end Go.Vd

set_option linter.unusedVariables false
set_option linter.unusedSimpArgs false
set_option maxRecDepth 100000
set_option maxHeartbeats 8000000
namespace Go.Vd
theorem signs2 (s : List UInt8) : signs 2 s = s.all okB := rfl
theorem rr_37 (s : List UInt8) : rr 37 s = (decide (s.length = 12) && s.all okB) := by
  have h : dFind FL 37 = some (2, 12) := rfl
  have e1 : dOk 37 = true := by simp [dOk, h]
  have e2 : dKd 37 = 2 := by simp [dKd, h]
  have e3 : dSz 37 = 12 := by simp [dSz, h]
  unfold rr
  rw [e1, e2, e3, signs2]
  by_cases h : s.length = 12
  · have hne : ¬s = [] := fun e => by rw [e] at h; simp at h
    rw [if_pos ⟨rfl, hne, by omega, fun _ => by omega⟩]
    simp [h]
  · rw [if_neg (fun h' => h (by have := h'.2.2.1; have := h'.2.2.2 (by omega); omega))]
    simp [h]
theorem dR_key {k a s : Int} {p r c : List UInt8} (h : dR k a s p r c = true) : keyOk s r = true ∧ a < 1000000000000 := by
  unfold dR at h
  simp only [Bool.and_eq_true, decide_eq_true_eq] at h
  obtain ⟨_, h2, h3, h4⟩ := h
  rw [rr_37] at h3
  simp only [Bool.and_eq_true, decide_eq_true_eq] at h3
  refine ⟨?_, ?_⟩
  · unfold keyOk
    simp only [Bool.and_eq_true, decide_eq_true_eq]
    exact ⟨h2, h3⟩
  · split at h4
    · simp only [Bool.and_eq_true, decide_eq_true_eq] at h4
      exact h4.2.2.1
    · simp only [Bool.and_eq_true, decide_eq_true_eq] at h4
      omega
theorem hR_of {k a s : Int} {p r c : List UInt8} (h : dR k a s p r c = true) {st : Int} (h1 : 1 ≤ st) (h2 : st ≤ 3) : hR ⟨s, r, a, st⟩ = true := by
  obtain ⟨h3, h4⟩ := dR_key h
  simp only [hR, Bool.and_eq_true, decide_eq_true_eq]
  exact ⟨h3, h4, h1, h2⟩
/-- A ledger stays right. -/
theorem doL_R {L : List Hld} {k a s : Int} {p r c : List UInt8} (hL : leR L = true) (hd : dR k a s p r c = true) (ok : Bool) : leR (doL L k a s r ok) = true := by
  unfold doL
  cases hh : has L s r
  · simp only [Bool.false_eq_true, if_false]
    have hins : ∀ st : Int, 1 ≤ st → st ≤ 3 → leR (opnH L ⟨s, r, a, st⟩) = true := fun st h1 h2 => by
      unfold opnH
      split
      · exact hL
      · rename_i hl
        exact (insH_mid hL (e := ⟨s, r, a, st⟩) (hR_of hd h1 h2) hh hl).1
    split
    · cases ok
      · exact hins 2 (by decide) (by decide)
      · exact hins 1 (by decide) (by decide)
    · split
      · exact hins 3 (by decide) (by decide)
      · exact hL
  · simp only [if_true]
    split
    · exact hL
    · split
      · exact (gvH_mid hL hh).1
      · exact hL
/-- A deal done once more alters nothing, and is answered as before. -/
theorem do_twice {L : List Hld} {k a s : Int} {p r c : List UInt8} (hL : leR L = true) (hd : dR k a s p r c = true) (o1 o2 : Bool) :
    doL (doL L k a s r o1) k a s r o2 = doL L k a s r o1 ∧ doC (doL L k a s r o1) k a s r o2 = doC L k a s r o1 := by
  have hfull : has L s r = false → 256 ≤ L.length → ∀ e : Hld, opnH L e = L := fun _ h e => if_pos h
  cases hh : has L s r
  · by_cases hl : 256 ≤ L.length
    · have e1 : doL L k a s r o1 = L := by unfold doL; rw [hh]; simp [opnH, hl]
      have e2 : doL L k a s r o2 = L := by unfold doL; rw [hh]; simp [opnH, hl]
      rw [e1, e2]
      refine ⟨rfl, ?_⟩
      unfold doC opnC
      rw [hh]
      simp [hl]
    · have hins := fun (st : Int) (h1 : 1 ≤ st) (h2 : st ≤ 3) => insH_mid hL (e := ⟨s, r, a, st⟩) (hR_of hd h1 h2) hh hl
      by_cases hk : k = 1
      · have e1 : doL L k a s r o1 = insH L ⟨s, r, a, if o1 = true then 1 else 2⟩ := by unfold doL opnH; rw [hh, if_pos hk, if_neg hl]; rfl
        have h3 := hins (if o1 = true then 1 else 2) (by cases o1 <;> decide) (by cases o1 <;> decide)
        simp only at h3
        rw [e1]
        refine ⟨by unfold doL; rw [if_pos hk, if_pos h3.2.1], ?_⟩
        unfold doC
        rw [if_pos hk, if_pos hk, if_pos h3.2.1, hh, h3.2.2.2.1]
        unfold opnC
        rw [if_neg hl]
        cases o1 <;> simp [agC]
      · by_cases hk2 : k = 5 ∨ k = 6
        · have e1 : doL L k a s r o1 = insH L ⟨s, r, a, 3⟩ := by unfold doL opnH; rw [hh, if_neg hk, if_pos hk2, if_neg hl]; rfl
          have h3 := hins 3 (by decide) (by decide)
          simp only at h3
          rw [e1]
          refine ⟨?_, ?_⟩
          · unfold doL
            rw [if_neg hk, if_pos hk2, if_pos h3.2.1]
            unfold gvH
            rw [h3.2.2.2.1]
            have hp := (has_pos ((ascB_iff _).1 (leR_asc h3.1).1) h3.2.1).1
            conv => rhs; rw [← List.set_getElem_self hp]
            congr 1
            rw [getD_get hp, h3.2.2.2.1]
          · unfold doC
            rw [if_neg hk, if_neg hk, if_pos hk2, if_pos hk2, if_pos h3.2.1, hh]
            unfold opnC
            rw [if_neg hl]
            rfl
        · have e1 : ∀ M o, doL M k a s r o = M := fun M o => by unfold doL; rw [if_neg hk, if_neg hk2]
          have e2 : ∀ M o, doC M k a s r o = [] := fun M o => by unfold doC; rw [if_neg hk, if_neg hk2]
          rw [e1, e1, e2, e2]
          exact ⟨rfl, rfl⟩
  · by_cases hk : k = 1
    · have e1 : ∀ o, doL L k a s r o = L := fun o => by unfold doL; rw [if_pos hk, if_pos hh]
      rw [e1, e1]
      refine ⟨rfl, ?_⟩
      unfold doC
      rw [if_pos hk, if_pos hh, if_pos hk, if_pos hh]
    · by_cases hk2 : k = 5 ∨ k = 6
      · have h3 := gvH_mid hL hh
        have e1 : ∀ o, doL L k a s r o = gvH L (pos L s r) := fun o => by unfold doL; rw [if_neg hk, if_pos hk2, if_pos hh]
        rw [e1]
        refine ⟨?_, ?_⟩
        · unfold doL
          rw [if_neg hk, if_pos hk2, if_pos h3.2.1, h3.2.2.2.2.1, h3.2.2.2.2.2.1]
        · unfold doC
          rw [if_neg hk, if_pos hk2, if_pos h3.2.1, if_neg hk, if_pos hk2, if_pos hh]
      · have e1 : ∀ M o, doL M k a s r o = M := fun M o => by unfold doL; rw [if_neg hk, if_neg hk2]
        have e2 : ∀ M o, doC M k a s r o = [] := fun M o => by unfold doC; rw [if_neg hk, if_neg hk2]
        rw [e1, e1, e2, e2]
        exact ⟨rfl, rfl⟩
/-- And so with whatever is handed in. -/
theorem le_twice (L : List Hld) (k a s : Int) (p r c : List UInt8) (o1 o2 : Bool) :
    lgL (lgL L k a s p r c o1) k a s p r c o2 = lgL L k a s p r c o1 ∧ lgE (lgL L k a s p r c o1) k a s p r c = lgE L k a s p r c ∧
      (lgE L k a s p r c = 0 → doC (lgL L k a s p r c o1) k a s r o2 = doC L k a s r o1) := by
  by_cases h : lgOk L k a s p r c = true
  · have h2 : leR L = true ∧ dR k a s p r c = true := by simpa [lgOk] using h
    have h3 := do_twice h2.1 h2.2 o1 o2
    have e1 : lgL L k a s p r c o1 = doL L k a s r o1 := if_pos h
    have h4 : lgOk (doL L k a s r o1) k a s p r c = true := by unfold lgOk; rw [doL_R h2.1 h2.2 o1, h2.2]; rfl
    rw [e1]
    refine ⟨by unfold lgL; rw [if_pos h4]; exact h3.1, by unfold lgE; rw [if_pos h4, if_pos h], fun _ => h3.2⟩
  · have e1 : ∀ o, lgL L k a s p r c o = L := fun o => if_neg h
    rw [e1, e1]
    refine ⟨rfl, rfl, fun h0 => ?_⟩
    unfold lgE at h0
    rw [if_neg h] at h0
    cases h0
end Go.Vd

set_option linter.unusedVariables false
namespace Go.Vd
def svn1 : SV → SV → Prop
  | .slc n k f, t => (∃ g, t = .slc n k g ∧ ∀ i j, i < n → j < k → Ceq (f i j) (g i j)) ∨ (n = 0 ∧ ∃ k' g, t = .slc 0 k' g)
  | .nils, t => ∃ k g, t = .slc 0 k g
  | s, t => s = t
theorem svn1_rel {w : World} {ρ : Nat → Value} {rw N : Nat → Prop} {v : Value} {s t : SV} (h : Rel w ρ rw N v s) (e : svn1 s t) : Rel w ρ rw N v t := by
  cases s with
  | slc n k f =>
    rcases e with e | ⟨rfl, k', g, rfl⟩
    · exact sv1_rel h e
    · cases h with
      | slc a _ c _ _ g2 hn hc ha hr => exact .slc a 0 c k' g (fun _ _ => undef) hn (fun i j hi => absurd hi (by omega)) (fun h => absurd h (by omega)) (fun i j hi => absurd hi (by omega))
  | nils =>
    obtain ⟨k, g, rfl⟩ := e
    cases h with
    | nils => exact .slc none 0 0 k g (fun _ _ => undef) (Nat.le_refl _) (fun i j hi => absurd hi (by omega)) (fun h => absurd h (by omega)) (fun i j hi => absurd hi (by omega))
  | _ => cases e; exact h
def svn2 : SV → SV → Prop
  | .agg l, t => ∃ m, t = .agg m ∧ All2 svn1 l m
  | s, t => svn1 s t
theorem svn2_rel {w : World} {ρ : Nat → Value} {rw N : Nat → Prop} {v : Value} {s t : SV} (h : Rel w ρ rw N v s) (e : svn2 s t) : Rel w ρ rw N v t := by
  cases s with
  | agg l =>
    obtain ⟨m, rfl, he⟩ := e
    generalize hs : SV.agg l = s at h
    cases h with
    | agg cs l' hl h1 hh =>
      cases hs
      have hlen := he.length
      refine .agg _ _ (by omega) h1 fun i v t hv ht => ?_
      have hi : i < l.length := by have := (List.getElem?_eq_some_iff.1 ht).1; omega
      exact svn1_rel (hh i v _ hv (List.getElem?_eq_getElem hi)) (he.get i _ t (List.getElem?_eq_getElem hi) ht)
    | _ => cases hs
  | _ => exact svn1_rel h e
theorem good_svn {P : Program} {gl : Nat → SV} {f : FuncId} {args args' : List SV} {r : SV} (h : GoodP P gl f args' r) (he : All2 svn2 args args') : GoodP P gl f args r := by
  intro w ρ rw N vs hfr hrw hg hargs
  refine h w ρ rw N vs hfr hrw hg ?_
  have key : ∀ {vs : List Value} {l m : List SV}, All2 (Rel w ρ rw N) vs l → All2 svn2 l m → All2 (Rel w ρ rw N) vs m := by
    intro vs
    induction vs with
    | nil => intro l m h1 h2; cases l with
      | nil => cases m with
        | nil => trivial
        | cons => exact h2.elim
      | cons => exact h1.elim
    | cons v vs ih => intro l m h1 h2; cases l with
      | nil => exact h1.elim
      | cons s l => cases m with
        | nil => exact h2.elim
        | cons t m => exact ⟨svn2_rel h1.1 h2.1, ih h1.2 h2.2⟩
  exact key hargs he
end Go.Vd

set_option linter.unusedVariables false
set_option linter.unusedSimpArgs false
set_option maxRecDepth 100000
set_option maxHeartbeats 8000000
namespace Go.Vd
open Go.Proofs Ieee
noncomputable def c_leDo : Ct := fun A args => match args with
  | [.agg [.slc n 4 f], .agg [.int .i64 k, .str p, .int .u64 a, .int .u32 s, .str r, .str c], .bool ok] => some (some (A.tp fun _ => (isRow eH H0 4 n f ∧ n ≤ 1000000) ∧ p.length ≤ 100000 ∧ r.length ≤ 1000000 ∧ c.length ≤ 1000000), .tup [sL A fun _ => lgL (lstOf eH H0 4 n f) k a s p r c ok, anS A (fun _ => lstOf eH H0 4 n f) k a s p r c ok, .int .i64 (A.ti fun _ => lgE (lstOf eH H0 4 n f) k a s p r c)])
  | [.agg [.slc m 1 g], .agg [.int .i64 k, .str p, .int .u64 a, .int .u32 s, .str r, .str c], .bool ok] => some (some (A.tp fun _ => m = 0 ∧ p.length ≤ 100000 ∧ r.length ≤ 1000000 ∧ c.length ≤ 1000000), .tup [sL A fun _ => lgL [] k a s p r c ok, anS A (fun _ => []) k a s p r c ok, .int .i64 (A.ti fun _ => lgE [] k a s p r c)])
  | _ => none
noncomputable def gy8 : Ar → Pu := addC 61 c_leDo gy7s
theorem gy8_ok : PuOk Tryd.prog gl0 (gy8 std) := by
  refine addC_ok gy7s_ok ⟨_, Tryd.func61, rfl, by decide⟩ ?_
  intro args p r h hp
  unfold c_leDo at h
  split at h <;> cases h
  · exact good_svn (good_leDo _ _ _ _ _ _ _ _ (by rw [lstOf_length hp.1.1]; exact hp.1.2) hp.2.1 hp.2.2.1 hp.2.2.2) ⟨⟨_, rfl, .inl hp.1.1.sv, trivial⟩, ⟨_, rfl, rfl, rfl, rfl, rfl, rfl, rfl, trivial⟩, rfl, trivial⟩
  · exact good_svn (good_leDo [] _ _ _ _ _ _ _ (by simp) hp.2.1 hp.2.2.1 hp.2.2.2) ⟨⟨_, rfl, .inr ⟨hp.1, _, _, rfl⟩, trivial⟩, ⟨_, rfl, rfl, rfl, rfl, rfl, rfl, rfl, trivial⟩, rfl, trivial⟩
def rr1 : List UInt8 := [82, 82, 78, 48, 48, 48, 48, 48, 48, 48, 48, 49]
attribute [local irreducible] vc
theorem good_leAwake  : GoodP Tryd.prog gl0 57 [] (.bool true) := by
  refine fn_sound' (T := seatT) (G := gy8) (X := noX) seatT_ok gy8_ok noX_ok noI_ok mixed Tryd.func57 (.one) (fun A => []) (fun A => .bool true) fun A hA => ?_
  cbv
  repeat' (first | with_reducible exact True.intro | with_reducible exact dr_ok hA (by kernel_rfl) | with_reducible refine And.intro ?_ ?_ | (intro hc; cbv))
  all_goals (subst hA; try simp only [std_add, std_sub, std_mul, std_quo, std_rem, std_band, std_bor, std_bxor, std_shl, std_shr, std_eq, std_ne, std_lt, std_le, std_conv, std_not, std_beq, std_bne, std_ite, std_want, std_and2, std_sadd, std_seq, std_sne, std_slt, std_sle, std_sgt, std_sge, std_slen, std_sget, std_scut, std_ofNat, std_toNat, std_nsub, std_nadd, std_lenOf, std_nz, std_nneg, std_inb, std_upto, std_slt63, std_grow, std_imp, std_impN, std_tr, std_tb, std_ti, std_ts, std_tn, std_tp, std_nmin, std_makes, std_room, std_zeros, std_nilq, std_notq, std_eqi, std_eqn, std_eqb, std_eqs, std_eqv, std_cat, std_lst, std_rset, std_rcopy, std_shift, std_eqr, std_strOf, std_bytesOf, std_isB, std_zOf, zOf_int, std_isI, isI_int, std_getL, std_nmul, std_sOf, sOf_str, std_isS, isS_str, std_fadd, std_fsub, std_fav, std_fsv, std_feq, std_fne, std_flt, std_fle, std_fgt, std_fge, std_fOf, std_fTo, std_fTv, strOf_lit, lstOf_lit inj_eB, lstOf_lit inj_eZ, lstOf_lit inj_eBs, lstOf_lit inj_eS, lstOf_V, isRow_V] at *)
  all_goals first
    | exact ⟨trivial, by decide⟩
    | decide
    | trace_state
end Go.Vd

set_option linter.unusedVariables false
set_option linter.unusedSimpArgs false
set_option maxRecDepth 100000
set_option maxHeartbeats 8000000
namespace Go.Vd
open Go.Proofs
attribute [local irreducible] vc
theorem good_kShort (s : Int) (r : List UInt8) : GoodP Tryd.prog gl0 43 [sKey std s r] (.bool (std.tb fun _ => decide (r.length ≤ 300))) := by
  refine fn_sound' (T := seatT) (G := noC) (X := noX) seatT_ok noC_ok noX_ok noI_ok mixed Tryd.func43 (.one) (fun A => [sKey A s r]) (fun A => .bool (A.tb fun _ => decide (r.length ≤ 300))) fun A hA => ?_
  cbv
  repeat' (first | with_reducible exact True.intro | with_reducible exact dr_ok hA (by kernel_rfl) | with_reducible refine And.intro ?_ ?_ | (intro hc; cbv))
  all_goals (subst hA; simp [std_add, std_sub, std_mul, std_quo, std_rem, std_band, std_bor, std_bxor, std_shl, std_shr, std_eq, std_ne, std_lt, std_le, std_conv, std_not, std_beq, std_bne, std_ite, std_want, std_and2, std_sadd, std_seq, std_sne, std_slt, std_sle, std_sgt, std_sge, std_slen, std_sget, std_scut, std_ofNat, std_toNat, std_nsub, std_nadd, std_lenOf, std_nz, std_nneg, std_inb, std_upto, std_slt63, std_grow, std_imp, std_impN, std_tr, std_tb, std_ti, std_ts, std_tn, std_tp, std_nmin, std_makes, std_room, std_zeros, std_nilq, std_notq, std_eqi, std_eqn, std_eqb, std_eqs, std_eqv, std_cat, std_lst, std_rset, std_rcopy, std_shift, std_eqr, std_strOf, std_bytesOf, std_isB, std_zOf, zOf_int, std_isI, isI_int, std_getL, std_nmul, std_sOf, sOf_str, std_isS, isS_str, std_fadd, std_fsub, std_fav, std_fsv, std_feq, std_fne, std_flt, std_fle, std_fgt, std_fge, std_fOf, std_fTo, std_fTv] at *)
  all_goals omega
noncomputable def c_kShort : Ct := fun A args => match args with
  | [.agg [.int .u32 s, .str r]] => some (none, .bool (A.tb fun _ => decide (r.length ≤ 300)))
  | _ => none
noncomputable def gy7 : Ar → Pu := addC 43 c_kShort (gy6)
theorem gy7_ok : PuOk Tryd.prog gl0 (gy7 std) := by
  refine addC_ok (gy6_ok) ⟨_, Tryd.func43, rfl, by decide⟩ ?_
  · intro args p r h hp
    unfold c_kShort at h
    split at h <;> cases h
    exact good_kShort _ _
def shE (e : Hld) : Bool := decide (e.r.length ≤ 300)
def shL (L : List Hld) : Bool := decide (L.length ≤ 300) && L.all shE
theorem shL_iff {L : List Hld} : shL L = true ↔ L.length ≤ 300 ∧ ∀ e ∈ L, shE e = true := by simp [shL]
theorem shL_no {L : List Hld} {i : Nat} (hi : i < L.length) (h : shE (L.getD i H0) = false) : shL L = false := by
  cases e : shL L
  · rfl
  · have := (shL_iff.1 e).2 (L.getD i H0) (by rw [List.getD_eq_getElem?_getD, List.getElem?_eq_getElem hi]; exact List.getElem_mem hi)
    rw [h] at this
    cases this
theorem shL_yes {L : List Hld} (h : ∀ j, j < L.length → shE (L.getD j H0) = true) : shL L = decide (L.length ≤ 300) := by
  have : L.all shE = true := List.all_eq_true.2 fun d hd => by
    obtain ⟨j, hj, e⟩ := List.getElem_of_mem hd
    have := h j hj
    rw [List.getD_eq_getElem?_getD, List.getElem?_eq_getElem hj] at this
    exact e ▸ this
  unfold shL
  rw [this, Bool.and_true]
theorem shL_big {L : List Hld} (h : ¬L.length ≤ 300) : shL L = false := by simp [shL, h]
theorem good_lShort (L : List Hld) (hL : L.length ≤ 9223372036854775807) : GoodP Tryd.prog gl0 58 [.agg [rowS eH H0 4 std fun _ => L]] (.bool (std.tb fun _ => shL L)) := by
  refine fn_sound' (T := seatT) (G := gy7) (X := noX) seatT_ok gy7_ok noX_ok noI_ok mixed Tryd.func58 (.one) (fun A => [.agg [rowS eH H0 4 A fun _ => L]]) (fun A => .bool (A.tb fun _ => shL L)) fun A hA => ?_
  cbv
  repeat' (first | with_reducible exact True.intro | with_reducible exact dr_ok hA (by kernel_rfl) | with_reducible refine And.intro ?_ ?_ | (intro hc; cbv))
  refine ⟨⟨{i : Nat // i ≤ L.length ∧ i ≤ 300 ∧ ∀ j, j < i → shE (L.getD j H0) = true}, fun b i => [(3, .int .i64 (i.1 : Nat))], fun b i => [], fun i => L.length - i.1, true⟩, ⟨⟨0, by omega, by omega, by simp⟩, ?_⟩, ?_⟩
  · cbv
    subst hA
    simp [-List.getD_eq_getElem?_getD, std_add, std_sub, std_mul, std_quo, std_rem, std_band, std_bor, std_bxor, std_shl, std_shr, std_eq, std_ne, std_lt, std_le, std_conv, std_not, std_beq, std_bne, std_ite, std_want, std_and2, std_sadd, std_seq, std_sne, std_slt, std_sle, std_sgt, std_sge, std_slen, std_sget, std_scut, std_ofNat, std_toNat, std_nsub, std_nadd, std_lenOf, std_nz, std_nneg, std_inb, std_upto, std_slt63, std_grow, std_imp, std_impN, std_tr, std_tb, std_ti, std_ts, std_tn, std_tp, std_nmin, std_makes, std_room, std_zeros, std_nilq, std_notq, std_eqi, std_eqn, std_eqb, std_eqs, std_eqv, std_cat, std_lst, std_rset, std_rcopy, std_shift, std_eqr, std_strOf, std_bytesOf, std_isB, std_zOf, zOf_int, std_isI, isI_int, std_getL, std_nmul, std_sOf, sOf_str, std_isS, isS_str, std_fadd, std_fsub, std_fav, std_fsv, std_feq, std_fne, std_flt, std_fle, std_fgt, std_fge, std_fOf, std_fTo, std_fTv]
  · rintro ⟨i, hx⟩
    have hi := hx.1
    have hi2 := hx.2.1
    have h0 := hx.2.2
    obtain ⟨e, he⟩ : ∃ e, e = L.getD i H0 := ⟨_, rfl⟩
    have hg : L.getD i { s := 0, r := [], am := 0, st := 0 } = e := he.symm
    by_cases hlt : i < L.length ∧ i < 300
    · have hno := fun h => shL_no (L := L) hlt.1 (he ▸ h)
      cbv
      repeat' (first | with_reducible exact True.intro | with_reducible exact dr_ok hA (by kernel_rfl) | with_reducible refine And.intro ?_ ?_ | (intro hc; cbv))
      all_goals first
        | (fail_if_success (refine Exists.intro ?_ ?_)
           clear h0
           subst hA
           simp [-List.getD_eq_getElem?_getD, std_add, std_sub, std_mul, std_quo, std_rem, std_band, std_bor, std_bxor, std_shl, std_shr, std_eq, std_ne, std_lt, std_le, std_conv, std_not, std_beq, std_bne, std_ite, std_want, std_and2, std_sadd, std_seq, std_sne, std_slt, std_sle, std_sgt, std_sge, std_slen, std_sget, std_scut, std_ofNat, std_toNat, std_nsub, std_nadd, std_lenOf, std_nz, std_nneg, std_inb, std_upto, std_slt63, std_grow, std_imp, std_impN, std_tr, std_tb, std_ti, std_ts, std_tn, std_tp, std_nmin, std_makes, std_room, std_zeros, std_nilq, std_notq, std_eqi, std_eqn, std_eqb, std_eqs, std_eqv, std_cat, std_lst, std_rset, std_rcopy, std_shift, std_eqr, std_strOf, std_bytesOf, std_isB, std_zOf, zOf_int, std_isI, isI_int, std_getL, std_nmul, std_sOf, sOf_str, std_isS, isS_str, std_fadd, std_fsub, std_fav, std_fsv, std_feq, std_fne, std_flt, std_fle, std_fgt, std_fge, std_fOf, std_fTo, std_fTv, hg] at *
           first
             | done
             | exact ⟨(show (0 : Int) ≤ ((i : Nat) : Int) by omega), (show ((i : Nat) : Int) < ((L.length : Nat) : Int) by omega)⟩
             | exact hno (by simp [shE]; omega)
             | exact hno hc
             | omega
             | (exfalso; omega)
             | trace_state)
        | (obtain ⟨i', hi'⟩ : ∃ i', i' = i + 1 := ⟨_, rfl⟩
           have hk : shE e = true := by
             clear h0
             subst hA
             simp [-List.getD_eq_getElem?_getD, std_add, std_sub, std_mul, std_quo, std_rem, std_band, std_bor, std_bxor, std_shl, std_shr, std_eq, std_ne, std_lt, std_le, std_conv, std_not, std_beq, std_bne, std_ite, std_want, std_and2, std_sadd, std_seq, std_sne, std_slt, std_sle, std_sgt, std_sge, std_slen, std_sget, std_scut, std_ofNat, std_toNat, std_nsub, std_nadd, std_lenOf, std_nz, std_nneg, std_inb, std_upto, std_slt63, std_grow, std_imp, std_impN, std_tr, std_tb, std_ti, std_ts, std_tn, std_tp, std_nmin, std_makes, std_room, std_zeros, std_nilq, std_notq, std_eqi, std_eqn, std_eqb, std_eqs, std_eqv, std_cat, std_lst, std_rset, std_rcopy, std_shift, std_eqr, std_strOf, std_bytesOf, std_isB, std_zOf, zOf_int, std_isI, isI_int, std_getL, std_nmul, std_sOf, sOf_str, std_isS, isS_str, std_fadd, std_fsub, std_fav, std_fsv, std_feq, std_fne, std_flt, std_fle, std_fgt, std_fge, std_fOf, std_fTo, std_fTv, hg] at hc
             first | exact hc | (simp [shE]; omega)
           refine ⟨⟨i', by omega, by omega, fun j hj => ?_⟩, ?_, show L.length - i' < L.length - i by omega⟩
           · rcases Nat.lt_or_ge j i with h | h
             · exact h0 j h
             · obtain rfl : j = i := by omega
               rw [← he]; exact hk
           · cbv
             subst hA
             simp [-List.getD_eq_getElem?_getD, std_add, std_sub, std_mul, std_quo, std_rem, std_band, std_bor, std_bxor, std_shl, std_shr, std_eq, std_ne, std_lt, std_le, std_conv, std_not, std_beq, std_bne, std_ite, std_want, std_and2, std_sadd, std_seq, std_sne, std_slt, std_sle, std_sgt, std_sge, std_slen, std_sget, std_scut, std_ofNat, std_toNat, std_nsub, std_nadd, std_lenOf, std_nz, std_nneg, std_inb, std_upto, std_slt63, std_grow, std_imp, std_impN, std_tr, std_tb, std_ti, std_ts, std_tn, std_tp, std_nmin, std_makes, std_room, std_zeros, std_nilq, std_notq, std_eqi, std_eqn, std_eqb, std_eqs, std_eqv, std_cat, std_lst, std_rset, std_rcopy, std_shift, std_eqr, std_strOf, std_bytesOf, std_isB, std_zOf, zOf_int, std_isI, isI_int, std_getL, std_nmul, std_sOf, sOf_str, std_isS, isS_str, std_fadd, std_fsub, std_fav, std_fsv, std_feq, std_fne, std_flt, std_fle, std_fgt, std_fge, std_fOf, std_fTo, std_fTv]
             exact w_succ' hi' (by omega))
        | trace_state
    · have hans : shL L = decide (L.length ≤ 300) := by
        by_cases hb : L.length ≤ 300
        · exact shL_yes fun j hj => h0 j (by omega)
        · rw [shL_big hb, decide_eq_false hb]
      cbv
      repeat' (first | with_reducible exact True.intro | with_reducible exact dr_ok hA (by kernel_rfl) | with_reducible refine And.intro ?_ ?_ | (intro hc; cbv))
      all_goals first
        | (exfalso
           clear h0
           subst hA
           simp [-List.getD_eq_getElem?_getD, std_add, std_sub, std_mul, std_quo, std_rem, std_band, std_bor, std_bxor, std_shl, std_shr, std_eq, std_ne, std_lt, std_le, std_conv, std_not, std_beq, std_bne, std_ite, std_want, std_and2, std_sadd, std_seq, std_sne, std_slt, std_sle, std_sgt, std_sge, std_slen, std_sget, std_scut, std_ofNat, std_toNat, std_nsub, std_nadd, std_lenOf, std_nz, std_nneg, std_inb, std_upto, std_slt63, std_grow, std_imp, std_impN, std_tr, std_tb, std_ti, std_ts, std_tn, std_tp, std_nmin, std_makes, std_room, std_zeros, std_nilq, std_notq, std_eqi, std_eqn, std_eqb, std_eqs, std_eqv, std_cat, std_lst, std_rset, std_rcopy, std_shift, std_eqr, std_strOf, std_bytesOf, std_isB, std_zOf, zOf_int, std_isI, isI_int, std_getL, std_nmul, std_sOf, sOf_str, std_isS, isS_str, std_fadd, std_fsub, std_fav, std_fsv, std_feq, std_fne, std_flt, std_fle, std_fgt, std_fge, std_fOf, std_fTo, std_fTv, hg] at hc
           omega)
        | (exfalso
           clear h0
           subst hA
           rename_i q
           simp [-List.getD_eq_getElem?_getD, std_add, std_sub, std_mul, std_quo, std_rem, std_band, std_bor, std_bxor, std_shl, std_shr, std_eq, std_ne, std_lt, std_le, std_conv, std_not, std_beq, std_bne, std_ite, std_want, std_and2, std_sadd, std_seq, std_sne, std_slt, std_sle, std_sgt, std_sge, std_slen, std_sget, std_scut, std_ofNat, std_toNat, std_nsub, std_nadd, std_lenOf, std_nz, std_nneg, std_inb, std_upto, std_slt63, std_grow, std_imp, std_impN, std_tr, std_tb, std_ti, std_ts, std_tn, std_tp, std_nmin, std_makes, std_room, std_zeros, std_nilq, std_notq, std_eqi, std_eqn, std_eqb, std_eqs, std_eqv, std_cat, std_lst, std_rset, std_rcopy, std_shift, std_eqr, std_strOf, std_bytesOf, std_isB, std_zOf, zOf_int, std_isI, isI_int, std_getL, std_nmul, std_sOf, sOf_str, std_isS, isS_str, std_fadd, std_fsub, std_fav, std_fsv, std_feq, std_fne, std_flt, std_fle, std_fgt, std_fge, std_fOf, std_fTo, std_fTv, hg] at q
           omega)
        | (clear h0
           subst hA
           simp [-List.getD_eq_getElem?_getD, std_add, std_sub, std_mul, std_quo, std_rem, std_band, std_bor, std_bxor, std_shl, std_shr, std_eq, std_ne, std_lt, std_le, std_conv, std_not, std_beq, std_bne, std_ite, std_want, std_and2, std_sadd, std_seq, std_sne, std_slt, std_sle, std_sgt, std_sge, std_slen, std_sget, std_scut, std_ofNat, std_toNat, std_nsub, std_nadd, std_lenOf, std_nz, std_nneg, std_inb, std_upto, std_slt63, std_grow, std_imp, std_impN, std_tr, std_tb, std_ti, std_ts, std_tn, std_tp, std_nmin, std_makes, std_room, std_zeros, std_nilq, std_notq, std_eqi, std_eqn, std_eqb, std_eqs, std_eqv, std_cat, std_lst, std_rset, std_rcopy, std_shift, std_eqr, std_strOf, std_bytesOf, std_isB, std_zOf, zOf_int, std_isI, isI_int, std_getL, std_nmul, std_sOf, sOf_str, std_isS, isS_str, std_fadd, std_fsub, std_fav, std_fsv, std_feq, std_fne, std_flt, std_fle, std_fgt, std_fge, std_fOf, std_fTo, std_fTv, hg] at *
           first
             | done
             | (rw [hans, Bool.eq_iff_iff]; simp; omega)
             | (rw [hans]; simp; done)
             | omega
             | (intros; omega)
             | trace_state)
        | trace_state
noncomputable def c_lShort : Ct := fun A args => match args with
  | [.agg [.slc n 4 f]] => some (some (A.tp fun _ => isRow eH H0 4 n f ∧ n ≤ 9223372036854775807), .bool (A.tb fun _ => shL (lstOf eH H0 4 n f)))
  | _ => none
end Go.Vd

set_option linter.unusedVariables false
set_option linter.unusedSimpArgs false
set_option maxRecDepth 100000
set_option maxHeartbeats 8000000
namespace Go.Vd
open Go.Proofs
theorem Hld_ext {x y : Hld} (h0 : x.s = y.s) (h1 : x.r = y.r) (h2 : x.am = y.am) (h3 : x.st = y.st) : x = y := by cases x; cases y; simp_all
attribute [local irreducible] vc
theorem good_lSame (L M : List Hld) (hL : L.length ≤ 1000000) : GoodP Tryd.prog gl0 66 [.agg [rowS eH H0 4 std fun _ => L], .agg [rowS eH H0 4 std fun _ => M]] (.bool (std.tb fun _ => decide (L = M))) := by
  refine fn_sound' (T := seatT) (G := noC) (X := noX) seatT_ok noC_ok noX_ok noI_ok mixed Tryd.func66 (.one) (fun A => [.agg [rowS eH H0 4 A fun _ => L], .agg [rowS eH H0 4 A fun _ => M]]) (fun A => .bool (A.tb fun _ => decide (L = M))) fun A hA => ?_
  cbv
  repeat' (first | with_reducible exact True.intro | with_reducible exact dr_ok hA (by kernel_rfl) | with_reducible refine And.intro ?_ ?_ | (intro hc; cbv))
  rotate_right
  all_goals first
    | (fail_if_success (refine Exists.intro ?_ ?_)
       subst hA
       simp [std_add, std_sub, std_mul, std_quo, std_rem, std_band, std_bor, std_bxor, std_shl, std_shr, std_eq, std_ne, std_lt, std_le, std_conv, std_not, std_beq, std_bne, std_ite, std_want, std_and2, std_sadd, std_seq, std_sne, std_slt, std_sle, std_sgt, std_sge, std_slen, std_sget, std_scut, std_ofNat, std_toNat, std_nsub, std_nadd, std_lenOf, std_nz, std_nneg, std_inb, std_upto, std_slt63, std_grow, std_imp, std_impN, std_tr, std_tb, std_ti, std_ts, std_tn, std_tp, std_nmin, std_makes, std_room, std_zeros, std_nilq, std_notq, std_eqi, std_eqn, std_eqb, std_eqs, std_eqv, std_cat, std_lst, std_rset, std_rcopy, std_shift, std_eqr, std_strOf, std_bytesOf, std_isB, std_zOf, zOf_int, std_isI, isI_int, std_getL, std_nmul, std_sOf, sOf_str, std_isS, isS_str, std_fadd, std_fsub, std_fav, std_fsv, std_feq, std_fne, std_flt, std_fle, std_fgt, std_fge, std_fOf, std_fTo, std_fTv] at *
       first | done | (intro e; subst e; exact absurd rfl (by assumption)))
    | skip
  have hl : L.length = M.length := by subst hA; simp [std_add, std_sub, std_mul, std_quo, std_rem, std_band, std_bor, std_bxor, std_shl, std_shr, std_eq, std_ne, std_lt, std_le, std_conv, std_not, std_beq, std_bne, std_ite, std_want, std_and2, std_sadd, std_seq, std_sne, std_slt, std_sle, std_sgt, std_sge, std_slen, std_sget, std_scut, std_ofNat, std_toNat, std_nsub, std_nadd, std_lenOf, std_nz, std_nneg, std_inb, std_upto, std_slt63, std_grow, std_imp, std_impN, std_tr, std_tb, std_ti, std_ts, std_tn, std_tp, std_nmin, std_makes, std_room, std_zeros, std_nilq, std_notq, std_eqi, std_eqn, std_eqb, std_eqs, std_eqv, std_cat, std_lst, std_rset, std_rcopy, std_shift, std_eqr, std_strOf, std_bytesOf, std_isB, std_zOf, zOf_int, std_isI, isI_int, std_getL, std_nmul, std_sOf, sOf_str, std_isS, isS_str, std_fadd, std_fsub, std_fav, std_fsv, std_feq, std_fne, std_flt, std_fle, std_fgt, std_fge, std_fOf, std_fTo, std_fTv] at hc; omega
  refine ⟨⟨{i : Nat // i ≤ L.length ∧ L.take i = M.take i}, fun b i => [(5, .int .i64 (i.1 : Nat))], fun b i => [], fun i => L.length - i.1, true⟩, ⟨⟨0, by omega, rfl⟩, ?_⟩, ?_⟩
  · cbv
    subst hA
    simp [-List.getD_eq_getElem?_getD, std_add, std_sub, std_mul, std_quo, std_rem, std_band, std_bor, std_bxor, std_shl, std_shr, std_eq, std_ne, std_lt, std_le, std_conv, std_not, std_beq, std_bne, std_ite, std_want, std_and2, std_sadd, std_seq, std_sne, std_slt, std_sle, std_sgt, std_sge, std_slen, std_sget, std_scut, std_ofNat, std_toNat, std_nsub, std_nadd, std_lenOf, std_nz, std_nneg, std_inb, std_upto, std_slt63, std_grow, std_imp, std_impN, std_tr, std_tb, std_ti, std_ts, std_tn, std_tp, std_nmin, std_makes, std_room, std_zeros, std_nilq, std_notq, std_eqi, std_eqn, std_eqb, std_eqs, std_eqv, std_cat, std_lst, std_rset, std_rcopy, std_shift, std_eqr, std_strOf, std_bytesOf, std_isB, std_zOf, zOf_int, std_isI, isI_int, std_getL, std_nmul, std_sOf, sOf_str, std_isS, isS_str, std_fadd, std_fsub, std_fav, std_fsv, std_feq, std_fne, std_flt, std_fle, std_fgt, std_fge, std_fOf, std_fTo, std_fTv]
  · rintro ⟨i, hx⟩
    have hi := hx.1
    have hz := hx.2
    obtain ⟨e, he⟩ : ∃ e, e = L.getD i H0 := ⟨_, rfl⟩
    obtain ⟨g, hgg⟩ : ∃ g, g = M.getD i H0 := ⟨_, rfl⟩
    have h1 : L.getD i { s := 0, r := [], am := 0, st := 0 } = e := he.symm
    have h2 : M.getD i { s := 0, r := [], am := 0, st := 0 } = g := hgg.symm
    have hne : ¬e = g → ¬L = M := fun hn hLM => hn (by rw [he, hgg, hLM])
    rcases Nat.lt_or_ge i L.length with hlt | hge
    · cbv
      repeat' (first | with_reducible exact True.intro | with_reducible exact dr_ok hA (by kernel_rfl) | with_reducible refine And.intro ?_ ?_ | (intro hc; cbv))
      all_goals first
        | (fail_if_success (refine Exists.intro ?_ ?_)
           clear hz
           subst hA
           simp [-List.getD_eq_getElem?_getD, std_add, std_sub, std_mul, std_quo, std_rem, std_band, std_bor, std_bxor, std_shl, std_shr, std_eq, std_ne, std_lt, std_le, std_conv, std_not, std_beq, std_bne, std_ite, std_want, std_and2, std_sadd, std_seq, std_sne, std_slt, std_sle, std_sgt, std_sge, std_slen, std_sget, std_scut, std_ofNat, std_toNat, std_nsub, std_nadd, std_lenOf, std_nz, std_nneg, std_inb, std_upto, std_slt63, std_grow, std_imp, std_impN, std_tr, std_tb, std_ti, std_ts, std_tn, std_tp, std_nmin, std_makes, std_room, std_zeros, std_nilq, std_notq, std_eqi, std_eqn, std_eqb, std_eqs, std_eqv, std_cat, std_lst, std_rset, std_rcopy, std_shift, std_eqr, std_strOf, std_bytesOf, std_isB, std_zOf, zOf_int, std_isI, isI_int, std_getL, std_nmul, std_sOf, sOf_str, std_isS, isS_str, std_fadd, std_fsub, std_fav, std_fsv, std_feq, std_fne, std_flt, std_fle, std_fgt, std_fge, std_fOf, std_fTo, std_fTv, h1, h2] at *
           first
             | done
             | exact ⟨(show (0 : Int) ≤ ((i : Nat) : Int) by omega), (show ((i : Nat) : Int) < ((M.length : Nat) : Int) by omega)⟩
             | omega
             | (apply hne; intro h; subst h; simp at hc; done)
             | (intro hLM; refine hne ?_ hLM; intro h; subst h; simp at hc; done)
             | trace_state)
        | (obtain ⟨i', hi'⟩ : ∃ i', i' = i + 1 := ⟨_, rfl⟩
           have hk : e = g := by
             clear hz hne
             subst hA
             simp [-List.getD_eq_getElem?_getD, std_add, std_sub, std_mul, std_quo, std_rem, std_band, std_bor, std_bxor, std_shl, std_shr, std_eq, std_ne, std_lt, std_le, std_conv, std_not, std_beq, std_bne, std_ite, std_want, std_and2, std_sadd, std_seq, std_sne, std_slt, std_sle, std_sgt, std_sge, std_slen, std_sget, std_scut, std_ofNat, std_toNat, std_nsub, std_nadd, std_lenOf, std_nz, std_nneg, std_inb, std_upto, std_slt63, std_grow, std_imp, std_impN, std_tr, std_tb, std_ti, std_ts, std_tn, std_tp, std_nmin, std_makes, std_room, std_zeros, std_nilq, std_notq, std_eqi, std_eqn, std_eqb, std_eqs, std_eqv, std_cat, std_lst, std_rset, std_rcopy, std_shift, std_eqr, std_strOf, std_bytesOf, std_isB, std_zOf, zOf_int, std_isI, isI_int, std_getL, std_nmul, std_sOf, sOf_str, std_isS, isS_str, std_fadd, std_fsub, std_fav, std_fsv, std_feq, std_fne, std_flt, std_fle, std_fgt, std_fge, std_fOf, std_fTo, std_fTv, h1, h2] at hc
             exact Hld_ext hc.1 hc.2.1 hc.2.2.1 hc.2.2.2
           refine ⟨⟨i', by omega, ?_⟩, ?_, show L.length - i' < L.length - i by omega⟩
           · rw [hi', ← take_snoc (d := H0) hlt, ← take_snoc (d := H0) (show i < M.length by omega), hz, ← he, ← hgg, hk]
           · cbv
             subst hA
             simp [-List.getD_eq_getElem?_getD, std_add, std_sub, std_mul, std_quo, std_rem, std_band, std_bor, std_bxor, std_shl, std_shr, std_eq, std_ne, std_lt, std_le, std_conv, std_not, std_beq, std_bne, std_ite, std_want, std_and2, std_sadd, std_seq, std_sne, std_slt, std_sle, std_sgt, std_sge, std_slen, std_sget, std_scut, std_ofNat, std_toNat, std_nsub, std_nadd, std_lenOf, std_nz, std_nneg, std_inb, std_upto, std_slt63, std_grow, std_imp, std_impN, std_tr, std_tb, std_ti, std_ts, std_tn, std_tp, std_nmin, std_makes, std_room, std_zeros, std_nilq, std_notq, std_eqi, std_eqn, std_eqb, std_eqs, std_eqv, std_cat, std_lst, std_rset, std_rcopy, std_shift, std_eqr, std_strOf, std_bytesOf, std_isB, std_zOf, zOf_int, std_isI, isI_int, std_getL, std_nmul, std_sOf, sOf_str, std_isS, isS_str, std_fadd, std_fsub, std_fav, std_fsv, std_feq, std_fne, std_flt, std_fle, std_fgt, std_fge, std_fOf, std_fTo, std_fTv]
             exact w_succ' hi' (by omega))
        | trace_state
    · have hie : i = L.length := by omega
      rw [hie, List.take_length, hl, List.take_length] at hz
      cbv
      repeat' (first | with_reducible exact True.intro | with_reducible exact dr_ok hA (by kernel_rfl) | with_reducible refine And.intro ?_ ?_ | (intro hc; cbv))
      all_goals first
        | (exfalso; clear hz; subst hA; simp [-List.getD_eq_getElem?_getD, std_add, std_sub, std_mul, std_quo, std_rem, std_band, std_bor, std_bxor, std_shl, std_shr, std_eq, std_ne, std_lt, std_le, std_conv, std_not, std_beq, std_bne, std_ite, std_want, std_and2, std_sadd, std_seq, std_sne, std_slt, std_sle, std_sgt, std_sge, std_slen, std_sget, std_scut, std_ofNat, std_toNat, std_nsub, std_nadd, std_lenOf, std_nz, std_nneg, std_inb, std_upto, std_slt63, std_grow, std_imp, std_impN, std_tr, std_tb, std_ti, std_ts, std_tn, std_tp, std_nmin, std_makes, std_room, std_zeros, std_nilq, std_notq, std_eqi, std_eqn, std_eqb, std_eqs, std_eqv, std_cat, std_lst, std_rset, std_rcopy, std_shift, std_eqr, std_strOf, std_bytesOf, std_isB, std_zOf, zOf_int, std_isI, isI_int, std_getL, std_nmul, std_sOf, sOf_str, std_isS, isS_str, std_fadd, std_fsub, std_fav, std_fsv, std_feq, std_fne, std_flt, std_fle, std_fgt, std_fge, std_fOf, std_fTo, std_fTv] at hc; omega)
        | (exfalso; clear hz; subst hA; rename_i q; simp [-List.getD_eq_getElem?_getD, std_add, std_sub, std_mul, std_quo, std_rem, std_band, std_bor, std_bxor, std_shl, std_shr, std_eq, std_ne, std_lt, std_le, std_conv, std_not, std_beq, std_bne, std_ite, std_want, std_and2, std_sadd, std_seq, std_sne, std_slt, std_sle, std_sgt, std_sge, std_slen, std_sget, std_scut, std_ofNat, std_toNat, std_nsub, std_nadd, std_lenOf, std_nz, std_nneg, std_inb, std_upto, std_slt63, std_grow, std_imp, std_impN, std_tr, std_tb, std_ti, std_ts, std_tn, std_tp, std_nmin, std_makes, std_room, std_zeros, std_nilq, std_notq, std_eqi, std_eqn, std_eqb, std_eqs, std_eqv, std_cat, std_lst, std_rset, std_rcopy, std_shift, std_eqr, std_strOf, std_bytesOf, std_isB, std_zOf, zOf_int, std_isI, isI_int, std_getL, std_nmul, std_sOf, sOf_str, std_isS, isS_str, std_fadd, std_fsub, std_fav, std_fsv, std_feq, std_fne, std_flt, std_fle, std_fgt, std_fge, std_fOf, std_fTo, std_fTv] at q; omega)
        | (subst hA
           simp [-List.getD_eq_getElem?_getD, std_add, std_sub, std_mul, std_quo, std_rem, std_band, std_bor, std_bxor, std_shl, std_shr, std_eq, std_ne, std_lt, std_le, std_conv, std_not, std_beq, std_bne, std_ite, std_want, std_and2, std_sadd, std_seq, std_sne, std_slt, std_sle, std_sgt, std_sge, std_slen, std_sget, std_scut, std_ofNat, std_toNat, std_nsub, std_nadd, std_lenOf, std_nz, std_nneg, std_inb, std_upto, std_slt63, std_grow, std_imp, std_impN, std_tr, std_tb, std_ti, std_ts, std_tn, std_tp, std_nmin, std_makes, std_room, std_zeros, std_nilq, std_notq, std_eqi, std_eqn, std_eqb, std_eqs, std_eqv, std_cat, std_lst, std_rset, std_rcopy, std_shift, std_eqr, std_strOf, std_bytesOf, std_isB, std_zOf, zOf_int, std_isI, isI_int, std_getL, std_nmul, std_sOf, sOf_str, std_isS, isS_str, std_fadd, std_fsub, std_fav, std_fsv, std_feq, std_fne, std_flt, std_fle, std_fgt, std_fge, std_fOf, std_fTo, std_fTv, hz] at *)
        | trace_state
noncomputable def c_lSame : Ct := fun A args => match args with
  | [.agg [.slc n 4 f], .agg [.slc m 4 g]] => some (some (A.tp fun _ => (isRow eH H0 4 n f ∧ isRow eH H0 4 m g) ∧ n ≤ 1000000), .bool (A.tb fun _ => decide (lstOf eH H0 4 n f = lstOf eH H0 4 m g)))
  | _ => none
noncomputable def gyS : Ar → Pu := addC 66 c_lSame (gy7)
theorem gyS_ok : PuOk Tryd.prog gl0 (gyS std) := by
  refine addC_ok (gy7_ok) ⟨_, Tryd.func66, rfl, by decide⟩ ?_
  · intro args p r h hp
    unfold c_lSame at h
    split at h <;> cases h
    exact good_sv (good_lSame _ _ (by rw [lstOf_length hp.1.1]; exact hp.2)) ⟨⟨_, rfl, hp.1.1.sv, trivial⟩, ⟨_, rfl, hp.1.2.sv, trivial⟩, trivial⟩
end Go.Vd

set_option linter.unusedVariables false
set_option linter.unusedSimpArgs false
set_option maxRecDepth 100000
set_option maxHeartbeats 8000000
namespace Go.Vd
open Go.Proofs
noncomputable def c_lShort9 : Ct := fun A args => match args with
  | [.agg [.slc n 4 f]] => some (some (A.tp fun _ => isRow eH H0 4 n f ∧ n ≤ 9223372036854775807), .bool (A.tb fun _ => shL (lstOf eH H0 4 n f)))
  | _ => none
noncomputable def c_lSame9 : Ct := fun A args => match args with
  | [.agg [.slc n 4 f], .agg [.slc m 4 g]] => some (some (A.tp fun _ => (isRow eH H0 4 n f ∧ isRow eH H0 4 m g) ∧ n ≤ 1000000), .bool (A.tb fun _ => decide (lstOf eH H0 4 n f = lstOf eH H0 4 m g)))
  | _ => none
noncomputable def c_leAwake : Ct := fun A args => match args with
  | [] => some (none, .bool true)
  | _ => none
noncomputable def gy9 : Ar → Pu := addC 58 c_lShort9 (addC 66 c_lSame9 (addC 57 c_leAwake (gy8)))
theorem gy9_ok : PuOk Tryd.prog gl0 (gy9 std) := by
  refine addC_ok (addC_ok (addC_ok (gy8_ok) ⟨_, Tryd.func57, rfl, by decide⟩ ?_) ⟨_, Tryd.func66, rfl, by decide⟩ ?_) ⟨_, Tryd.func58, rfl, by decide⟩ ?_
  · intro args p r h hp
    unfold c_leAwake at h
    split at h <;> cases h
    exact good_leAwake
  · intro args p r h hp
    unfold c_lSame9 at h
    split at h <;> cases h
    exact good_sv (good_lSame _ _ (by rw [lstOf_length hp.1.1]; exact hp.2)) ⟨⟨_, rfl, hp.1.1.sv, trivial⟩, ⟨_, rfl, hp.1.2.sv, trivial⟩, trivial⟩
  · intro args p r h hp
    unfold c_lShort9 at h
    split at h <;> cases h
    exact good_sv (good_lShort _ (by rw [lstOf_length hp.1]; exact hp.2)) ⟨⟨_, rfl, hp.1.sv, trivial⟩, trivial⟩
theorem lgL_len (L : List Hld) (k a s : Int) (p r c : List UInt8) (ok : Bool) : (lgL L k a s p r c ok).length ≤ L.length + 1 := by
  have h1 : ∀ e, (opnH L e).length ≤ L.length + 1 := fun e => by
    unfold opnH
    split
    · omega
    · rw [insH_len]; omega
  unfold lgL doL
  split
  · split
    · split
      · omega
      · exact h1 _
    · split
      · split
        · rw [gvH_len]; omega
        · exact h1 _
      · omega
  · omega
theorem shL_len {L : List Hld} (h : shL L = true) : L.length ≤ 300 := (shL_iff.1 h).1
attribute [local irreducible] vc
theorem good_LedgerTwice (L : List Hld) (k a s : Int) (p r c : List UInt8) (o1 o2 : Bool) (hL : L.length ≤ 9223372036854775807) : GoodP Tryd.prog gl0 14 [sL std fun _ => L, .agg [.int .i64 k, .str p, .int .u64 a, .int .u32 s, .str r, .str c], .bool o1, .bool o2] (.bool true) := by
  refine fn_sound' (T := seatT) (G := gy9) (X := noX) seatT_ok gy9_ok noX_ok noI_ok mixed Tryd.func14 (.one) (fun A => [sL A fun _ => L, .agg [.int .i64 k, .str p, .int .u64 a, .int .u32 s, .str r, .str c], .bool o1, .bool o2]) (fun A => .bool true) fun A hA => ?_
  cbv
  repeat' (first | with_reducible exact True.intro | with_reducible exact dr_ok hA (by kernel_rfl) | with_reducible refine And.intro ?_ ?_ | (intro hc; cbv))
  all_goals (subst hA; try simp only [std_add, std_sub, std_mul, std_quo, std_rem, std_band, std_bor, std_bxor, std_shl, std_shr, std_eq, std_ne, std_lt, std_le, std_conv, std_not, std_beq, std_bne, std_ite, std_want, std_and2, std_sadd, std_seq, std_sne, std_slt, std_sle, std_sgt, std_sge, std_slen, std_sget, std_scut, std_ofNat, std_toNat, std_nsub, std_nadd, std_lenOf, std_nz, std_nneg, std_inb, std_upto, std_slt63, std_grow, std_imp, std_impN, std_tr, std_tb, std_ti, std_ts, std_tn, std_tp, std_nmin, std_makes, std_room, std_zeros, std_nilq, std_notq, std_eqi, std_eqn, std_eqb, std_eqs, std_eqv, std_cat, std_lst, std_rset, std_rcopy, std_shift, std_eqr, std_strOf, std_bytesOf, std_isB, std_zOf, zOf_int, std_isI, isI_int, std_getL, std_nmul, std_sOf, sOf_str, std_isS, isS_str, std_fadd, std_fsub, std_fav, std_fsv, std_feq, std_fne, std_flt, std_fle, std_fgt, std_fge, std_fOf, std_fTo, std_fTv, lstOf_V, isRow_V] at *)
  all_goals first
    | exact ⟨trivial, hL⟩
    | (exfalso; revert hc; decide)
    | exact id
    | (intro h; rw [h]; rfl)
    | (intro h; exact ⟨h, h⟩)
    | (intro h; exact ⟨h, trivial, hL⟩)
    | skip
  all_goals first
    | (have hv : shL L = true ∧ p.length ≤ 300 ∧ r.length ≤ 300 ∧ c.length ≤ 300 := by
         have h : (bif !shL L then true else !decide (p.length ≤ 300 ∧ r.length ≤ 300 ∧ c.length ≤ 300)) = false := by assumption
         cases hs : shL L <;> rw [hs] at h
         · cases h
         · exact ⟨rfl, by simpa using h⟩
       have hl := shL_len hv.1
       have hl2 := lgL_len L k a s p r c o1
       have hl3 := lgL_len (lgL L k a s p r c o1) k a s p r c o2
       obtain ⟨f1, f2, f3⟩ := le_twice L k a s p r c o1 o2
       first
         | exact ⟨⟨trivial, by omega⟩, by omega, by omega, by omega⟩
         | (intro h; exact ⟨h, ⟨trivial, trivial⟩, by omega⟩)
         | exact ⟨⟨trivial, trivial⟩, by omega⟩
         | (by_cases hE : lgE L k a s p r c = 0
            · have f4 := f3 hE
              simp [f1, f2, f4, hE]
              try omega
            · simp [f1, f2, hE]
              try omega)
         | trace_state)
    | trace_state
end Go.Vd

set_option linter.unusedVariables false
namespace Go.Vd
open Go.Proofs Go.ChangeShapes Go.WideShapes Go.ChangeAt Go.RowKit Go.Joins Go.Deep Go.WideElems
theorem u16_wf {z : Int} (h : (Lit.int .u16 z).wf = true) : 0 ≤ z ∧ z < 65536 := by
  simp [Lit.wf] at h
  have e1 : IntKind.u16.min = 0 := by decide
  have e2 : IntKind.u16.max = 65535 := by decide
  rw [e1, e2] at h
  exact ⟨h.1, by omega⟩
section
variable {H : Type} {enc : TypeId × Value → H} {P : Program}
theorem open_eB_trod {W : World} {t e : TypeId} {v : Value} {fuel : Nat} {x : DataW H × List MemPlace} (ht : P.underlying t = some (.slice e)) (he : P.underlying e = some (.int .u8)) (hc : P.cellsOf e = 1)
    (h : DataW.trod enc P W 0 (fun _ => true) true fuel t [v] = some x) : ∃ L : List UInt8, L.length ≤ maxLen ∧ one v ∧ RelC W (fun _ => False) v (rowS eB 0 1 std fun _ => L) := by
  rcases open_ints ht he hc h with ⟨hcs, hx⟩ | ⟨a, len, cap, zs, hcs, _, hl, hm, hz, hx, hcell, hwz⟩
  · simp only [List.cons.injEq, and_true] at hcs
    subst hcs
    exact ⟨[], Nat.zero_le _, rfl, .slc none 0 0 1 _ (fun _ _ => undef) (Nat.le_refl _) (fun i j hi => absurd hi (by omega)) (fun h => absurd h (by omega)) (fun i j hi => absurd hi (by omega))⟩
  · simp only [List.cons.injEq, and_true] at hcs
    subst hcs
    simp only [if_true] at hz
    have hlen : ((zs.take len).map fun n => UInt8.ofNat n.toNat).length = len := by simp; omega
    refine ⟨(zs.take len).map fun n => UInt8.ofNat n.toNat, by rw [hlen]; omega, rfl, ?_⟩
    show RelC W (fun _ => False) _ (.slc ((zs.take len).map fun n => UInt8.ofNat n.toNat).length 1 (rowF eB 0 std fun _ => (zs.take len).map fun n => UInt8.ofNat n.toNat))
    rw [hlen]
    refine .slc (some a) len cap 1 _ (fun i _ => .int .u8 (zs.getD i 0)) hl (fun i j hi hj => ⟨a, rfl, ?_, rfl, fun h => h⟩) (fun h => ⟨a, rfl, ?_⟩) (fun i j hi hj => ?_)
    · rw [show i * 1 + j = i by omega]
      exact hcell i (by omega)
    · simpa [Addr.add] using World.cell?_spot (hcell 0 (by omega))
    · obtain rfl : j = 0 := by omega
      have hw := u8_wf (hwz (zs.getD i 0) (by rw [List.getD_eq_getElem?_getD, List.getElem?_eq_getElem (by omega)]; simp))
      have : (zs.getD i 0) = (((zs.take len).map fun n => UInt8.ofNat n.toNat).getD i 0).toNat := by
        rw [List.getD_eq_getElem?_getD, List.getD_eq_getElem?_getD, List.getElem?_map, List.getElem?_take_of_lt hi]
        rw [List.getD_eq_getElem?_getD] at hw
        rw [List.getElem?_eq_getElem (by omega)] at hw ⊢
        simp at hw ⊢
        omega
      show RelC W _ _ (SV.int .u8 _)
      rw [this]
      exact .int _ _
theorem array6 {α : Type} {cs : Array α} (h : cs.size = 6) : ∃ c0 c1 c2 c3 c4 c5, cs = #[c0, c1, c2, c3, c4, c5] := by
  obtain ⟨l⟩ := cs
  match l, h with
  | [c0, c1, c2, c3, c4, c5], _ => exact ⟨c0, c1, c2, c3, c4, c5, rfl⟩
theorem open_agg6 {W : World} {b0 base : Nat} {spare : Nat → Bool} {held : Bool} {r : Reach} {t : TypeId} {f0 f1 f2 f3 f4 f5 : Field} {v : Value} {d : DataW H} {p : List MemPlace} (hs : P.underlying t = some (.struct #[f0, f1, f2, f3, f4, f5])) (hone : oneCellFields P #[f0, f1, f2, f3, f4, f5] = true) (hC : P.cellsOf t = 6)
    (hv : Value.okWide P W r b0 t v) (h : DataW.Trod enc P W base spare held t v d p) :
    ∃ (v0 v1 v2 v3 v4 v5 : Value) (y0 y1 y2 y3 y4 y5 : DataW H × List MemPlace) (n : Nat), v = .agg #[v0, v1, v2, v3, v4, v5] ∧ d = .agg [y0.1, y1.1, y2.1, y3.1, y4.1, y5.1] ∧ p = y0.2 ++ (y1.2 ++ (y2.2 ++ (y3.2 ++ (y4.2 ++ y5.2)))) ∧
      DataW.trod enc P W base spare held n f0.type [v0] = some y0 ∧ DataW.trod enc P W base spare held n f1.type [v1] = some y1 ∧ DataW.trod enc P W base spare held n f2.type [v2] = some y2 ∧ DataW.trod enc P W base spare held n f3.type [v3] = some y3 ∧ DataW.trod enc P W base spare held n f4.type [v4] = some y4 ∧ DataW.trod enc P W base spare held n f5.type [v5] = some y5 := by
  obtain ⟨cs, rfl, hsz⟩ := okWide_struct hs hv
  obtain ⟨c0, c1, c2, c3, c4, c5, rfl⟩ := array6 (hsz.trans hC)
  obtain ⟨fuel, hf⟩ := h
  obtain ⟨xs, n, _, hx, hl, hlen, hf⟩ := DataW.trod_struct hs hf
  match xs, hlen with
  | [y0, y1, y2, y3, y4, y5], _ =>
    obtain ⟨o0, k0⟩ := hone_of hone 0 f0 rfl
    have h0 := hf 0 f0 rfl
    obtain ⟨o1, k1⟩ := hone_of hone 1 f1 rfl
    have h1 := hf 1 f1 rfl
    obtain ⟨o2, k2⟩ := hone_of hone 2 f2 rfl
    have h2 := hf 2 f2 rfl
    obtain ⟨o3, k3⟩ := hone_of hone 3 f3 rfl
    have h3 := hf 3 f3 rfl
    obtain ⟨o4, k4⟩ := hone_of hone 4 f4 rfl
    have h4 := hf 4 f4 rfl
    obtain ⟨o5, k5⟩ := hone_of hone 5 f5 rfl
    have h5 := hf 5 f5 rfl
    simp only [Prod.mk.injEq] at hx
    exact ⟨c0, c1, c2, c3, c4, c5, y0, y1, y2, y3, y4, y5, n, rfl, by simpa using hx.1, by simpa using hx.2, by simpa [Value.cells, o0, k0] using h0, by simpa [Value.cells, o1, k1] using h1, by simpa [Value.cells, o2, k2] using h2, by simpa [Value.cells, o3, k3] using h3, by simpa [Value.cells, o4, k4] using h4, by simpa [Value.cells, o5, k5] using h5⟩
theorem rel_agg6 {w : World} {ρ : Nat → Value} {rw N : Nat → Prop} {u0 u1 u2 u3 u4 u5 : Value} {s0 s1 s2 s3 s4 s5 : SV} (h0 : one u0) (h1 : one u1) (h2 : one u2) (h3 : one u3) (h4 : one u4) (h5 : one u5)
    (r0 : Rel w ρ rw N u0 s0) (r1 : Rel w ρ rw N u1 s1) (r2 : Rel w ρ rw N u2 s2) (r3 : Rel w ρ rw N u3 s3) (r4 : Rel w ρ rw N u4 s4) (r5 : Rel w ρ rw N u5 s5) : Rel w ρ rw N (.agg #[u0, u1, u2, u3, u4, u5]) (.agg [s0, s1, s2, s3, s4, s5]) := by
  refine .agg _ _ rfl ?_ ?_
  · intro v hv
    simp at hv
    rcases hv with rfl | rfl | rfl | rfl | rfl | rfl <;> assumption
  · intro i v s hv hs
    match i with
    | 0 => simp at hv hs; subst hv hs; exact r0
    | 1 => simp at hv hs; subst hv hs; exact r1
    | 2 => simp at hv hs; subst hv hs; exact r2
    | 3 => simp at hv hs; subst hv hs; exact r3
    | 4 => simp at hv hs; subst hv hs; exact r4
    | 5 => simp at hv hs; subst hv hs; exact r5
    | n + 6 => simp at hv
theorem u32_wf {z : Int} (h : (Lit.int .u32 z).wf = true) : 0 ≤ z ∧ z < 4294967296 := by
  simp [Lit.wf] at h
  have e1 : IntKind.u32.min = 0 := by decide
  have e2 : IntKind.u32.max = 4294967295 := by decide
  rw [e1, e2] at h
  exact ⟨h.1, by omega⟩
end
end Go.Vd

set_option linter.unusedVariables false
namespace Go.Vd
theorem u64_wf {z : Int} (h : (Lit.int .u64 z).wf = true) : 0 ≤ z ∧ z < 18446744073709551616 := by
  simp [Lit.wf] at h
  have e1 : IntKind.u64.min = 0 := by decide
  have e2 : IntKind.u64.max = 18446744073709551615 := by decide
  rw [e1, e2] at h
  omega
theorem i64_wf {z : Int} (h : (Lit.int .i64 z).wf = true) : -9223372036854775808 ≤ z ∧ z < 9223372036854775808 := by
  simp [Lit.wf] at h
  have e1 : IntKind.i64.min = -9223372036854775808 := by decide
  have e2 : IntKind.i64.max = 9223372036854775807 := by decide
  (try rw [e1] at h)
  (try rw [e2] at h)
  omega
theorem i16_wf {z : Int} (h : (Lit.int .i16 z).wf = true) : -32768 ≤ z ∧ z < 32768 := by
  simp [Lit.wf] at h
  have e1 : IntKind.i16.min = -32768 := by decide
  have e2 : IntKind.i16.max = 32767 := by decide
  (try rw [e1] at h)
  (try rw [e2] at h)
  omega
section
open Go.Proofs Go.ChangeShapes Go.WideShapes Go.ChangeAt Go.RowKit Go.Joins
variable {H : Type} {enc : TypeId × Value → H} {P : Program} {w : World} {base : Nat} {spare : Nat → Bool} {held : Bool}
theorem trodAll_five {t0 t1 t2 t3 t4 : TypeId} {args : Array Value} {ds : List (DataW H)} {ps : List MemPlace} (h : DataW.TrodAll enc P w base spare held [t0, t1, t2, t3, t4] args.toList ds ps) :
    ∃ v0 v1 v2 v3 v4 d0 d1 d2 d3 d4 p0 p1 p2 p3 p4, args = #[v0, v1, v2, v3, v4] ∧ ds = [d0, d1, d2, d3, d4] ∧ ps = p0 ++ p1 ++ p2 ++ p3 ++ p4 ∧ DataW.Trod enc P w base spare held t0 v0 d0 p0 ∧ DataW.Trod enc P w base spare held t1 v1 d1 p1 ∧ DataW.Trod enc P w base spare held t2 v2 d2 p2 ∧ DataW.Trod enc P w base spare held t3 v3 d3 p3 ∧ DataW.Trod enc P w base spare held t4 v4 d4 p4 := by
  obtain ⟨v0, vs0, d0, ds0, p0, q0, hargs, rfl, rfl, hd0, r0⟩ := trodAll_cons h
  obtain ⟨v1, vs1, d1, ds1, p1, q1, rfl, rfl, rfl, hd1, r1⟩ := trodAll_cons r0
  obtain ⟨v2, vs2, d2, ds2, p2, q2, rfl, rfl, rfl, hd2, r2⟩ := trodAll_cons r1
  obtain ⟨v3, vs3, d3, ds3, p3, q3, rfl, rfl, rfl, hd3, r3⟩ := trodAll_cons r2
  obtain ⟨v4, vs4, d4, ds4, p4, q4, rfl, rfl, rfl, hd4, r4⟩ := trodAll_cons r3
  obtain ⟨rfl, rfl, rfl⟩ := trodAll_nil r4
  exact ⟨v0, v1, v2, v3, v4, d0, d1, d2, d3, d4, p0, p1, p2, p3, p4, by cases args; simp_all, rfl, by simp, hd0, hd1, hd2, hd3, hd4⟩
end
end Go.Vd

set_option linter.unusedVariables false
set_option maxRecDepth 100000
namespace Go.Vd
open Go.Proofs Go.ChangeShapes Go.WideShapes Go.ChangeAt Go.RowKit Go.Joins Go.Deep Go.WideElems
section
variable {H : Type} {enc : TypeId × Value → H} {P : Program} {w : World} {base : Nat} {sp : Nat → Bool} {held : Bool}
/-- A struct of three numbers, as it is read. -/
theorem trod3 {fuel : Nat} {e : TypeId} {f0 f1 f2 : Field} {cs : List Value} {a b c : Int} {p : List MemPlace} (hs : P.underlying e = some (.struct #[f0, f1, f2])) (hone : oneCellFields P #[f0, f1, f2] = true)
    (h0 : P.underlying f0.type = some (.int .i64)) (h1 : P.underlying f1.type = some (.int .i64)) (h2 : P.underlying f2.type = some (.int .i64)) (hC : P.cellsOf e = 3)
    (h : DataW.trod enc P w base sp held fuel e cs = some (.agg [.lit (.int .i64 a), .lit (.int .i64 b), .lit (.int .i64 c)], p)) : cs = [.int .i64 a, .int .i64 b, .int .i64 c] := by
  obtain ⟨xs, n, _, hx, hl, hlen, hf⟩ := DataW.trod_struct hs h
  rw [hC] at hl
  match xs, hlen with
  | [y0, y1, y2], _ =>
    match cs, hl with
    | [c0, c1, c2], _ =>
      obtain ⟨o0, k0⟩ := hone_of hone 0 f0 rfl
      have g0 := hf 0 f0 rfl
      obtain ⟨o1, k1⟩ := hone_of hone 1 f1 rfl
      have g1 := hf 1 f1 rfl
      obtain ⟨o2, k2⟩ := hone_of hone 2 f2 rfl
      have g2 := hf 2 f2 rfl
      rw [o0, k0] at g0
      rw [o1, k1] at g1
      rw [o2, k2] at g2
      obtain ⟨z0, e0, i0, _⟩ := DataW.trod_int h0 g0
      obtain ⟨z1, e1, i1, _⟩ := DataW.trod_int h1 g1
      obtain ⟨z2, e2, i2, _⟩ := DataW.trod_int h2 g2
      simp only [Prod.mk.injEq] at hx
      have hx1 := hx.1
      simp at e0 e1 e2
      subst i0 i1 i2
      simp at hx1
      obtain ⟨r0, r1, r2⟩ := hx1
      subst r0 r1 r2 e0 e1 e2
      rfl
/-- A row of such. -/
theorem cells_of_known {fuel n : Nat} {t e : TypeId} {f0 f1 f2 : Field} {cs : List Value} {L : List (Int × Int × Int)} {p : List MemPlace} (ht : P.underlying t = some (.array n e)) (hs : P.underlying e = some (.struct #[f0, f1, f2])) (hone : oneCellFields P #[f0, f1, f2] = true)
    (h0 : P.underlying f0.type = some (.int .i64)) (h1 : P.underlying f1.type = some (.int .i64)) (h2 : P.underlying f2.type = some (.int .i64)) (hC : P.cellsOf e = 3)
    (h : DataW.trod enc P w base sp held fuel t cs = some (.agg (L.map fun x => .agg [.lit (.int .i64 x.1), .lit (.int .i64 x.2.1), .lit (.int .i64 x.2.2)]), p)) :
    cs.length = P.cellsOf t ∧ L.length = n ∧ ∀ i x, L[i]? = some x → (cs.drop (i * 3)).take 3 = [.int .i64 x.1, .int .i64 x.2.1, .int .i64 x.2.2] := by
  obtain ⟨xs, m, _, hx, hl, hlen, hf⟩ := DataW.trod_array ht h
  simp only [Prod.mk.injEq] at hx
  have hx1 : L.map (fun x => (DataW.agg [.lit (.int .i64 x.1), .lit (.int .i64 x.2.1), .lit (.int .i64 x.2.2)] : DataW H)) = xs.map (·.1) := by simpa using hx.1
  have hLl : L.length = n := by
    have := congrArg List.length hx1
    simp at this
    omega
  refine ⟨hl, hLl, fun i x hi => ?_⟩
  have hin : i < n := by
    rw [← hLl]
    exact (List.getElem?_eq_some_iff.1 hi).1
  have g := hf i hin
  rw [hC] at g
  have hxi : xs[i]? = some xs[i] := List.getElem?_eq_getElem (by omega)
  rw [hxi] at g
  have h3 : (DataW.agg [.lit (.int .i64 x.1), .lit (.int .i64 x.2.1), .lit (.int .i64 x.2.2)] : DataW H) = xs[i].1 := by
    have := congrArg (·[i]?) hx1
    simp [hi, hxi] at this
    exact this
  have g' : DataW.trod enc P w base sp held m e ((cs.drop (i * 3)).take 3) = some (.agg [.lit (.int .i64 x.1), .lit (.int .i64 x.2.1), .lit (.int .i64 x.2.2)], xs[i].2) := by
    rw [g, h3]
  exact trod3 hs hone h0 h1 h2 hC g'
end
def knownT : List (Int × Int × Int) := [(2, 3, 19), (3, 1, 6), (4, 1, 12), (7, 1, 10), (11, 1, 6), (12, 1, 6), (37, 2, 12), (38, 2, 6), (39, 2, 2), (41, 2, 8), (44, 4, 25), (48, 5, 999), (49, 1, 3), (90, 1, 42), (120, 5, 999)]
theorem gKnown : Tryd.prog.globalNamed "paydesk/field.known" = some 1 := by kernel_rfl
/-- What is known of the fields' own variable. -/
def KnownIs (w : World) : Prop := ∃ cs, w.var? Tryd.prog "paydesk/field.known" = some cs ∧ cs.size = 45 ∧ ∀ j, j < 45 → cs[j]? = some (.int .i64 (knownL.getD j 0))
theorem known_at : ∀ j, j < 45 → ∃ x, knownT[j / 3]? = some x ∧ ([x.1, x.2.1, x.2.2] : List Int)[j % 3]? = some (knownL.getD j 0) := by
  intro j hj
  have h : ∀ j : Fin 45, ∃ x : Fin 15, knownT[j.val / 3]? = knownT[x.val]? ∧ ((knownT[x.val]?).bind fun x => ([x.1, x.2.1, x.2.2] : List Int)[j.val % 3]?) = some (knownL.getD j.val 0) := by decide +kernel
  obtain ⟨x, h1, h2⟩ := h ⟨j, hj⟩
  simp only at h1 h2
  rw [← h1] at h2
  obtain ⟨y, h3, h4⟩ := Option.bind_eq_some_iff.1 h2
  exact ⟨y, h3, h4⟩
theorem gTypes : Tryd.prog.globalNamed "paydesk/deal.types" = some 0 := by kernel_rfl
def TypesIs (w : World) : Prop := ∃ cs, w.var? Tryd.prog "paydesk/deal.types" = some cs ∧ cs.size = 7 ∧ ∀ j, j < 7 → cs[j]? = some (.string ⟨(typesL.getD j []).toArray⟩)
section
variable {H : Type} {enc : TypeId × Value → H} {P : Program} {w : World} {base : Nat} {sp : Nat → Bool} {held : Bool}
theorem cells_of_types {fuel n : Nat} {t e : TypeId} {cs : List Value} {L : List (List UInt8)} {p : List MemPlace} (ht : P.underlying t = some (.array n e)) (he : P.underlying e = some .string) (hC : P.cellsOf e = 1)
    (h : DataW.trod enc P w base sp held fuel t cs = some (.agg (L.map fun x => .lit (.string x)), p)) :
    cs.length = P.cellsOf t ∧ L.length = n ∧ ∀ (i : Nat) (x : List UInt8), L[i]? = some x → cs[i]? = some (.string ⟨x.toArray⟩) := by
  obtain ⟨xs, m, _, hx, hl, hlen, hf⟩ := DataW.trod_array ht h
  simp only [Prod.mk.injEq] at hx
  have hx1 : L.map (fun x => (DataW.lit (.string x) : DataW H)) = xs.map (·.1) := by simpa using hx.1
  have hLl : L.length = n := by
    have := congrArg List.length hx1
    simp at this
    omega
  refine ⟨hl, hLl, fun i x hi => ?_⟩
  have hin : i < n := by
    rw [← hLl]
    exact (List.getElem?_eq_some_iff.1 hi).1
  have g := hf i hin
  rw [hC] at g
  have hxi : xs[i]? = some xs[i] := List.getElem?_eq_getElem (by omega)
  rw [hxi] at g
  have h3 : (DataW.lit (.string x) : DataW H) = xs[i].1 := by
    have := congrArg (·[i]?) hx1
    simp [hi, hxi] at this
    exact this
  obtain ⟨s, e1, e2, _⟩ := DataW.trod_string he g
  have e3 : (DataW.lit (.string x) : DataW H) = .lit (.string s.data.toList) := h3.trans (congrArg Prod.fst e2)
  injection e3 with e3
  injection e3 with e3
  have e4 := congrArg (·[0]?) e1
  simp [List.getElem?_drop] at e4
  rw [e4, e3]
end
/-- What the tables give of the package's variables. -/
theorem gl0_kt {w : World} (hh : KnownIs w ∧ TypesIs w) : GlOk gl0 w fun _ => False := by
  obtain ⟨⟨cs0, hv0, hz0, hc0⟩, cs1, hv1, hz1, hc1⟩ := hh
  have hne : ∀ g, g ≠ 1 → g ≠ 0 → gl0 g = .val (.pointer (some ⟨g, 0, none⟩)) := fun g hg hg0 => by
    unfold gl0
    split
    · first | exact absurd rfl hg0 | exact absurd rfl hg
    · first | exact absurd rfl hg | exact absurd rfl hg0
    · rfl
  refine ⟨fun g ρ N => ?_, fun g k f e => ?_⟩
  · by_cases hg : g = 0
    · subst hg
      show Rel w ρ (fun _ => False) N _ (.rop 7 fun j => .str (typesL.getD j []))
      refine .rop ⟨0, 0, none⟩ 7 _ (fun j => .string ⟨(typesL.getD j []).toArray⟩) rfl (fun j hj => ⟨?_, rfl, fun e => e⟩) (fun j _ => by have := RelC.str (w := w) (rw := fun _ => False) ⟨(typesL.getD j []).toArray⟩; simpa using this)
      rw [add_plain, Nat.zero_add, World.var?_cell gTypes hv1]
      exact hc1 j hj
    · by_cases hg0 : g = 1
      · subst hg0
        show Rel w ρ (fun _ => False) N _ (.rop 45 fun j => .int .i64 (knownL.getD j 0))
        refine .rop ⟨1, 0, none⟩ 45 _ (fun j => .int .i64 (knownL.getD j 0)) rfl (fun j hj => ⟨?_, rfl, fun e => e⟩) (fun j _ => .int _ _)
        rw [add_plain, Nat.zero_add, World.var?_cell gKnown hv0]
        exact hc0 j hj
      · rw [hne g hg0 hg]; exact .val _
  · by_cases hg : g = 0
    · subst hg
      have e2 : (SV.rop 7 fun j => .str (typesL.getD j [])) = .rop k f := e
      cases e2
      refine ⟨?_, fun e => e⟩
      unfold World.var? at hv1
      rw [gTypes] at hv1
      simp only [Option.bind_some] at hv1
      split at hv1
      · rename_i cs t b hc
        injection hv1 with hv1
        exact ⟨cs, t, b, hc, by rw [hv1]; exact hz1⟩
      · cases hv1
    · by_cases hg0 : g = 1
      · subst hg0
        have e2 : (SV.rop 45 fun j => .int .i64 (knownL.getD j 0)) = .rop k f := e
        cases e2
        refine ⟨?_, fun e => e⟩
        unfold World.var? at hv0
        rw [gKnown] at hv0
        simp only [Option.bind_some] at hv0
        split at hv0
        · rename_i cs t b hc
          injection hv0 with hv0
          exact ⟨cs, t, b, hc, by rw [hv0]; exact hz0⟩
        · cases hv0
      · rw [hne g hg0 hg] at e; cases e
end Go.Vd
namespace Go.Proofs.YtakcggldilbilaaDoor
open Go.ChangeShapes Go.WideShapes Go.ChangeAt Go.ChangeMaps Go.RowKit Go.Joins
def laidL : List (String × DataW Unit) := [("paydesk/field.known", Rows.laid_paydesk_field_known), ("paydesk/deal.types", Rows.laid_paydesk_deal_types)]
theorem Tryd.own : ownKnob Tryd.prog.godebug = none := by kernel_rfl
theorem Tryd.laidOut : laidOutB Tryd.prog = true := by kernel_rfl
theorem tKn : (Tryd.prog.globals[1]?).map (·.type) = some 219 := by kernel_rfl
theorem cKn : Tryd.prog.cellsOf 219 = 45 := by kernel_rfl
theorem cKnE : Tryd.prog.cellsOf 171 = 3 := by kernel_rfl
theorem dKn : (Rows.laid_paydesk_field_known : DataW Unit) = .agg (Vd.knownT.map fun x => .agg [.lit (.int .i64 x.1), .lit (.int .i64 x.2.1), .lit (.int .i64 x.2.2)]) := by kernel_rfl
theorem tTy : (Tryd.prog.globals[0]?).map (·.type) = some 139 := by kernel_rfl
theorem cTy : Tryd.prog.cellsOf 139 = 7 := by kernel_rfl
theorem cTyE : Tryd.prog.cellsOf 9 = 1 := by kernel_rfl
theorem dTy : (Rows.laid_paydesk_deal_types : DataW Unit) = .agg (Vd.typesL.map fun x => .lit (.string x)) := by kernel_rfl
theorem door_met (os : Os) (args : Array Value) : laidMetH Tryd.prog laidL ((World.doorLaid Tryd.prog 2000 os).forCall (fun _ _ => 0) ⟨#[], args, []⟩).memory :=
  laidMetH_of_parts3 (fuel := 8) (laidMet_of_run' 8 (by kernel_rfl) (by kernel_rfl)) (by kernel_rfl) (by kernel_rfl)
theorem laid_known {W : World} (h : laidMetH Tryd.prog laidL W) : Vd.KnownIs W ∧ Vd.TypesIs W := by
  rw [MakeChecks.laidMetH_plain _ _ _ (by kernel_rfl)] at h
  obtain ⟨ps, ⟨g3, t3, cs3, f3, p3, q3, hg3, ht3, hv3, hd3, ⟨g4, t4, cs4, f4, p4, q4, hg4, ht4, hv4, hd4, _, _⟩, _⟩, _, _⟩ := h
  refine ⟨?_, ?_⟩
  · obtain rfl := Option.some.inj (Vd.gKnown.symm.trans hg3)
    obtain rfl := Option.some.inj (tKn.symm.trans ht3)
    rw [dKn] at hd3
    obtain ⟨hl, hn, hx⟩ := Vd.cells_of_known Tryd.underlying219 Tryd.underlying171 (by kernel_rfl) Tryd.underlying3 Tryd.underlying3 Tryd.underlying3 cKnE hd3
    rw [cKn] at hl
    refine ⟨cs3, hv3, by simpa using hl, fun j hj => ?_⟩
    obtain ⟨x, h1, h2⟩ := Vd.known_at j hj
    have h3 := hx _ x h1
    have h4 := congrArg (·[j % 3]?) h3
    rw [List.getElem?_take_of_lt (by omega), List.getElem?_drop, show j / 3 * 3 + j % 3 = j by omega] at h4
    rw [← Array.getElem?_toList, h4]
    have h5 := congrArg (Option.map (Value.int .i64)) h2
    rw [← List.getElem?_map] at h5
    exact h5
  · obtain rfl := Option.some.inj (Vd.gTypes.symm.trans hg4)
    obtain rfl := Option.some.inj (tTy.symm.trans ht4)
    rw [dTy] at hd4
    obtain ⟨hl, hn, hx⟩ := Vd.cells_of_types Tryd.underlying139 Tryd.underlying9 cTyE hd4
    rw [cTy] at hl
    refine ⟨cs4, hv4, by simpa using hl, fun j hj => ?_⟩
    rw [← Array.getElem?_toList]
    refine hx j _ ?_
    rw [List.getD_eq_getElem?_getD, List.getElem?_eq_getElem (by exact hj)]
    rfl
end Go.Proofs.YtakcggldilbilaaDoor

set_option linter.unusedVariables false
namespace Go.Vd
open Go.Proofs Go.ChangeShapes Go.WideShapes Go.ChangeAt Go.RowKit Go.Joins Go.Deep Go.WideElems
section
variable {H : Type} {enc : TypeId × Value → H} {P : Program}
theorem array7 {α : Type} {cs : Array α} (h : cs.size = 7) : ∃ c0 c1 c2 c3 c4 c5 c6, cs = #[c0, c1, c2, c3, c4, c5, c6] := by
  obtain ⟨l⟩ := cs
  match l, h with
  | [c0, c1, c2, c3, c4, c5, c6], _ => exact ⟨c0, c1, c2, c3, c4, c5, c6, rfl⟩
theorem array8 {α : Type} {cs : Array α} (h : cs.size = 8) : ∃ c0 c1 c2 c3 c4 c5 c6 c7, cs = #[c0, c1, c2, c3, c4, c5, c6, c7] := by
  obtain ⟨l⟩ := cs
  match l, h with
  | [c0, c1, c2, c3, c4, c5, c6, c7], _ => exact ⟨c0, c1, c2, c3, c4, c5, c6, c7, rfl⟩
theorem rel_agg7 {w : World} {ρ : Nat → Value} {rw N : Nat → Prop} {u0 u1 u2 u3 u4 u5 u6 : Value} {s0 s1 s2 s3 s4 s5 s6 : SV} (h0 : one u0) (h1 : one u1) (h2 : one u2) (h3 : one u3) (h4 : one u4) (h5 : one u5) (h6 : one u6) (r0 : Rel w ρ rw N u0 s0) (r1 : Rel w ρ rw N u1 s1) (r2 : Rel w ρ rw N u2 s2) (r3 : Rel w ρ rw N u3 s3) (r4 : Rel w ρ rw N u4 s4) (r5 : Rel w ρ rw N u5 s5) (r6 : Rel w ρ rw N u6 s6) : Rel w ρ rw N (.agg #[u0, u1, u2, u3, u4, u5, u6]) (.agg [s0, s1, s2, s3, s4, s5, s6]) := by
  refine .agg _ _ rfl ?_ ?_
  · intro v hv
    simp at hv
    rcases hv with rfl | rfl | rfl | rfl | rfl | rfl | rfl <;> assumption
  · intro i v s hv hs
    match i with
    | 0 => simp at hv hs; subst hv hs; exact r0
    | 1 => simp at hv hs; subst hv hs; exact r1
    | 2 => simp at hv hs; subst hv hs; exact r2
    | 3 => simp at hv hs; subst hv hs; exact r3
    | 4 => simp at hv hs; subst hv hs; exact r4
    | 5 => simp at hv hs; subst hv hs; exact r5
    | 6 => simp at hv hs; subst hv hs; exact r6
    | n + 7 => simp at hv
theorem rel_agg8 {w : World} {ρ : Nat → Value} {rw N : Nat → Prop} {u0 u1 u2 u3 u4 u5 u6 u7 : Value} {s0 s1 s2 s3 s4 s5 s6 s7 : SV} (h0 : one u0) (h1 : one u1) (h2 : one u2) (h3 : one u3) (h4 : one u4) (h5 : one u5) (h6 : one u6) (h7 : one u7) (r0 : Rel w ρ rw N u0 s0) (r1 : Rel w ρ rw N u1 s1) (r2 : Rel w ρ rw N u2 s2) (r3 : Rel w ρ rw N u3 s3) (r4 : Rel w ρ rw N u4 s4) (r5 : Rel w ρ rw N u5 s5) (r6 : Rel w ρ rw N u6 s6) (r7 : Rel w ρ rw N u7 s7) : Rel w ρ rw N (.agg #[u0, u1, u2, u3, u4, u5, u6, u7]) (.agg [s0, s1, s2, s3, s4, s5, s6, s7]) := by
  refine .agg _ _ rfl ?_ ?_
  · intro v hv
    simp at hv
    rcases hv with rfl | rfl | rfl | rfl | rfl | rfl | rfl | rfl <;> assumption
  · intro i v s hv hs
    match i with
    | 0 => simp at hv hs; subst hv hs; exact r0
    | 1 => simp at hv hs; subst hv hs; exact r1
    | 2 => simp at hv hs; subst hv hs; exact r2
    | 3 => simp at hv hs; subst hv hs; exact r3
    | 4 => simp at hv hs; subst hv hs; exact r4
    | 5 => simp at hv hs; subst hv hs; exact r5
    | 6 => simp at hv hs; subst hv hs; exact r6
    | 7 => simp at hv hs; subst hv hs; exact r7
    | n + 8 => simp at hv
theorem open_entry {W : World} {b0 base : Nat} {spare : Nat → Bool} {held : Bool} {r : Reach} {t : TypeId} {f0 f1 f2 f3 f4 f5 f6 : Field} {g00 g01 : Field} {v : Value} {d : DataW H} {p : List MemPlace} (hs : P.underlying t = some (.struct #[f0, f1, f2, f3, f4, f5, f6])) (hC : P.cellsOf t = 8)
    (o0 : f0.offset = 0) (k0 : P.cellsOf f0.type = 2) (o1 : f1.offset = 2) (k1 : P.cellsOf f1.type = 1) (o2 : f2.offset = 3) (k2 : P.cellsOf f2.type = 1) (o3 : f3.offset = 4) (k3 : P.cellsOf f3.type = 1) (o4 : f4.offset = 5) (k4 : P.cellsOf f4.type = 1) (o5 : f5.offset = 6) (k5 : P.cellsOf f5.type = 1) (o6 : f6.offset = 7) (k6 : P.cellsOf f6.type = 1) (hs0 : P.underlying f0.type = some (.struct #[g00, g01])) (hone0 : oneCellFields P #[g00, g01] = true) 
    (hv : Value.okWide P W r b0 t v) (h : DataW.Trod enc P W base spare held t v d p) :
    ∃ (c0 c1 c2 c3 c4 c5 c6 c7 : Value) (y00 y01 y1 y2 y3 y4 y5 y6 : DataW H × List MemPlace) (n m0 : Nat), v = .agg #[c0, c1, c2, c3, c4, c5, c6, c7] ∧ d = .agg [.agg [y00.1, y01.1], y1.1, y2.1, y3.1, y4.1, y5.1, y6.1] ∧ p = (y00.2 ++ (y01.2)) ++ (y1.2 ++ (y2.2 ++ (y3.2 ++ (y4.2 ++ (y5.2 ++ (y6.2)))))) ∧
      DataW.trod enc P W base spare held m0 g00.type [c0] = some y00 ∧ DataW.trod enc P W base spare held m0 g01.type [c1] = some y01 ∧ DataW.trod enc P W base spare held n f1.type [c2] = some y1 ∧ DataW.trod enc P W base spare held n f2.type [c3] = some y2 ∧ DataW.trod enc P W base spare held n f3.type [c4] = some y3 ∧ DataW.trod enc P W base spare held n f4.type [c5] = some y4 ∧ DataW.trod enc P W base spare held n f5.type [c6] = some y5 ∧ DataW.trod enc P W base spare held n f6.type [c7] = some y6 := by
  obtain ⟨cs, rfl, hsz⟩ := okWide_struct hs hv
  obtain ⟨c0, c1, c2, c3, c4, c5, c6, c7, rfl⟩ := array8 (hsz.trans hC)
  obtain ⟨fuel, hf⟩ := h
  obtain ⟨xs, n, _, hx, hl, hlen, hf⟩ := DataW.trod_struct hs hf
  match xs, hlen with
  | [w0, w1, w2, w3, w4, w5, w6], _ =>
    simp only [Prod.mk.injEq] at hx
    have q0 := hf 0 f0 rfl
    rw [o0, k0] at q0
    have q1 := hf 1 f1 rfl
    rw [o1, k1] at q1
    have q2 := hf 2 f2 rfl
    rw [o2, k2] at q2
    have q3 := hf 3 f3 rfl
    rw [o3, k3] at q3
    have q4 := hf 4 f4 rfl
    rw [o4, k4] at q4
    have q5 := hf 5 f5 rfl
    rw [o5, k5] at q5
    have q6 := hf 6 f6 rfl
    rw [o6, k6] at q6
    have q0 : DataW.trod enc P W base spare held n f0.type [c0, c1] = some w0 := by simpa [Value.cells] using q0
    obtain ⟨xs0, m0, _, hx0, _, hlen0, hf0⟩ := DataW.trod_struct hs0 q0
    match xs0, hlen0 with
    | [y00, y01], _ =>
    obtain ⟨oo00, kk00⟩ := hone_of hone0 0 g00 rfl
    have qq00 := hf0 0 g00 rfl
    rw [oo00, kk00] at qq00
    obtain ⟨oo01, kk01⟩ := hone_of hone0 1 g01 rfl
    have qq01 := hf0 1 g01 rfl
    rw [oo01, kk01] at qq01
    subst hx0
    refine ⟨c0, c1, c2, c3, c4, c5, c6, c7, y00, y01, w1, w2, w3, w4, w5, w6, n, m0, rfl, by simpa using hx.1, by simpa using hx.2, by simpa [Value.cells] using qq00, by simpa [Value.cells] using qq01, by simpa [Value.cells] using q1, by simpa [Value.cells] using q2, by simpa [Value.cells] using q3, by simpa [Value.cells] using q4, by simpa [Value.cells] using q5, by simpa [Value.cells] using q6⟩
theorem open_event {W : World} {b0 base : Nat} {spare : Nat → Bool} {held : Bool} {r : Reach} {t : TypeId} {f0 f1 : Field} {g10 g11 g12 g13 g14 g15 : Field} {v : Value} {d : DataW H} {p : List MemPlace} (hs : P.underlying t = some (.struct #[f0, f1])) (hC : P.cellsOf t = 7)
    (o0 : f0.offset = 0) (k0 : P.cellsOf f0.type = 1) (o1 : f1.offset = 1) (k1 : P.cellsOf f1.type = 6) (hs1 : P.underlying f1.type = some (.struct #[g10, g11, g12, g13, g14, g15])) (hone1 : oneCellFields P #[g10, g11, g12, g13, g14, g15] = true) 
    (hv : Value.okWide P W r b0 t v) (h : DataW.Trod enc P W base spare held t v d p) :
    ∃ (c0 c1 c2 c3 c4 c5 c6 : Value) (y0 y10 y11 y12 y13 y14 y15 : DataW H × List MemPlace) (n m1 : Nat), v = .agg #[c0, c1, c2, c3, c4, c5, c6] ∧ d = .agg [y0.1, .agg [y10.1, y11.1, y12.1, y13.1, y14.1, y15.1]] ∧ p = y0.2 ++ ((y10.2 ++ (y11.2 ++ (y12.2 ++ (y13.2 ++ (y14.2 ++ (y15.2))))))) ∧
      DataW.trod enc P W base spare held n f0.type [c0] = some y0 ∧ DataW.trod enc P W base spare held m1 g10.type [c1] = some y10 ∧ DataW.trod enc P W base spare held m1 g11.type [c2] = some y11 ∧ DataW.trod enc P W base spare held m1 g12.type [c3] = some y12 ∧ DataW.trod enc P W base spare held m1 g13.type [c4] = some y13 ∧ DataW.trod enc P W base spare held m1 g14.type [c5] = some y14 ∧ DataW.trod enc P W base spare held m1 g15.type [c6] = some y15 := by
  obtain ⟨cs, rfl, hsz⟩ := okWide_struct hs hv
  obtain ⟨c0, c1, c2, c3, c4, c5, c6, rfl⟩ := array7 (hsz.trans hC)
  obtain ⟨fuel, hf⟩ := h
  obtain ⟨xs, n, _, hx, hl, hlen, hf⟩ := DataW.trod_struct hs hf
  match xs, hlen with
  | [w0, w1], _ =>
    simp only [Prod.mk.injEq] at hx
    have q0 := hf 0 f0 rfl
    rw [o0, k0] at q0
    have q1 := hf 1 f1 rfl
    rw [o1, k1] at q1
    have q1 : DataW.trod enc P W base spare held n f1.type [c1, c2, c3, c4, c5, c6] = some w1 := by simpa [Value.cells] using q1
    obtain ⟨xs1, m1, _, hx1, _, hlen1, hf1⟩ := DataW.trod_struct hs1 q1
    match xs1, hlen1 with
    | [y10, y11, y12, y13, y14, y15], _ =>
    obtain ⟨oo10, kk10⟩ := hone_of hone1 0 g10 rfl
    have qq10 := hf1 0 g10 rfl
    rw [oo10, kk10] at qq10
    obtain ⟨oo11, kk11⟩ := hone_of hone1 1 g11 rfl
    have qq11 := hf1 1 g11 rfl
    rw [oo11, kk11] at qq11
    obtain ⟨oo12, kk12⟩ := hone_of hone1 2 g12 rfl
    have qq12 := hf1 2 g12 rfl
    rw [oo12, kk12] at qq12
    obtain ⟨oo13, kk13⟩ := hone_of hone1 3 g13 rfl
    have qq13 := hf1 3 g13 rfl
    rw [oo13, kk13] at qq13
    obtain ⟨oo14, kk14⟩ := hone_of hone1 4 g14 rfl
    have qq14 := hf1 4 g14 rfl
    rw [oo14, kk14] at qq14
    obtain ⟨oo15, kk15⟩ := hone_of hone1 5 g15 rfl
    have qq15 := hf1 5 g15 rfl
    rw [oo15, kk15] at qq15
    subst hx1
    refine ⟨c0, c1, c2, c3, c4, c5, c6, w0, y10, y11, y12, y13, y14, y15, n, m1, rfl, by simpa using hx.1, by simpa using hx.2, by simpa [Value.cells] using q0, by simpa [Value.cells] using qq10, by simpa [Value.cells] using qq11, by simpa [Value.cells] using qq12, by simpa [Value.cells] using qq13, by simpa [Value.cells] using qq14, by simpa [Value.cells] using qq15⟩
end
end Go.Vd

set_option linter.unusedVariables false
namespace Go.Vd
open Go.Proofs Go.ChangeShapes Go.WideShapes Go.ChangeAt Go.RowKit Go.Joins Go.Deep Go.WideElems
def hB (e : Hld) : Prop := 0 ≤ e.am
theorem hB_0 : hB H0 := (by decide : (0 : Int) ≤ 0)
section
variable {H : Type} {enc : TypeId × Value → H} {P : Program}
theorem hds_list {α : Type} {cs : List α} (h : cs.length = 4) : ∃ c0 c1 c2 c3, cs = [c0, c1, c2, c3] := by
  match cs, h with
  | [c0, c1, c2, c3], _ => exact ⟨c0, c1, c2, c3, rfl⟩
theorem hds_one {W : World} {ad : Addr} {n : Nat} {el : DataW H × List MemPlace} {e : TypeId} {f0 f1 f2 g00 g01 : Field} (hs : P.underlying e = some (.struct #[f0, f1, f2])) (hC : P.cellsOf e = 4)
    (o0 : f0.offset = 0) (k0 : P.cellsOf f0.type = 2) (hs0 : P.underlying f0.type = some (.struct #[g00, g01])) (hone0 : oneCellFields P #[g00, g01] = true) (o1 : f1.offset = 2) (k1 : P.cellsOf f1.type = 1) (o2 : f2.offset = 3) (k2 : P.cellsOf f2.type = 1) 
    (u0 : P.underlying g00.type = some (.int .u32)) (u1 : P.underlying g01.type = some (.string)) (u2 : P.underlying f1.type = some (.int .u64)) (u3 : P.underlying f2.type = some (.int .i64)) 
    (h : (W.cells? 0 ad 4).bind (DataW.trod enc P W 0 (fun _ => true) true n e) = some el) :
    ∃ x : Hld, hB x ∧ ∀ j, j < 4 → ∃ v, W.cell? (ad.add j) = some v ∧ Vd.one v ∧ RelC W (fun _ => False) v (getAt (eH std fun _ => x) j) := by
  obtain ⟨cs, hcs, hf⟩ := Option.bind_eq_some_iff.1 h
  obtain ⟨_, hlen, hcell⟩ := World.cells?_some hcs
  obtain ⟨c0, c1, c2, c3, rfl⟩ := hds_list hlen
  obtain ⟨xs, n', _, hx, hl, hlen2, hf⟩ := DataW.trod_struct hs hf
  match xs, hlen2 with
  | [w0, w1, w2], _ =>
    have q0 := hf 0 f0 rfl
    rw [o0, k0] at q0
    have q0 : DataW.trod enc P W 0 (fun _ => true) true n' f0.type [c0, c1] = some w0 := by simpa using q0
    obtain ⟨xs0, m0, _, hx0, _, hlen0, hf0⟩ := DataW.trod_struct hs0 q0
    match xs0, hlen0 with
    | [y00, y01], _ =>
    obtain ⟨oo00, kk00⟩ := hone_of hone0 0 g00 rfl
    have qq00 := hf0 0 g00 rfl
    rw [oo00, kk00] at qq00
    obtain ⟨oo01, kk01⟩ := hone_of hone0 1 g01 rfl
    have qq01 := hf0 1 g01 rfl
    rw [oo01, kk01] at qq01
    have q1 := hf 1 f1 rfl
    rw [o1, k1] at q1
    have q1 : DataW.trod enc P W 0 (fun _ => true) true n' f1.type [c2] = some w1 := by simpa using q1
    have q2 := hf 2 f2 rfl
    rw [o2, k2] at q2
    have q2 : DataW.trod enc P W 0 (fun _ => true) true n' f2.type [c3] = some w2 := by simpa using q2
    obtain ⟨z0, e0, _, wf0⟩ := DataW.trod_int (cs := [c0]) u0 (by simpa using qq00)
    obtain ⟨s1, e1, _, _⟩ := DataW.trod_string (cs := [c1]) u1 (by simpa using qq01)
    obtain ⟨z2, e2, _, wf2⟩ := DataW.trod_int (cs := [c2]) u2 q1
    obtain ⟨z3, e3, _, wf3⟩ := DataW.trod_int (cs := [c3]) u3 q2
    simp only [List.cons.injEq, and_true] at e0 e1 e2 e3
    subst e0 e1 e2 e3
    refine ⟨⟨z0, s1.data.toList, z2, z3⟩, (u64_wf wf2).1, fun j hj => ?_⟩
    have hcj := hcell j (by omega)
    match j, hj with
    | 0, _ => exact ⟨.int .u32 z0, by simpa using hcj, rfl, .int _ _⟩
    | 1, _ => exact ⟨.string s1, by simpa using hcj, rfl, .str _⟩
    | 2, _ => exact ⟨.int .u64 z2, by simpa using hcj, rfl, .int _ _⟩
    | 3, _ => exact ⟨.int .i64 z3, by simpa using hcj, rfl, .int _ _⟩
theorem open_hds_trod {W : World} {t e : TypeId} {v : Value} {fuel : Nat} {x : DataW H × List MemPlace} (ht : P.underlying t = some (.slice e)) {f0 f1 f2 g00 g01 : Field} (hs : P.underlying e = some (.struct #[f0, f1, f2])) (hC : P.cellsOf e = 4)
    (o0 : f0.offset = 0) (k0 : P.cellsOf f0.type = 2) (hs0 : P.underlying f0.type = some (.struct #[g00, g01])) (hone0 : oneCellFields P #[g00, g01] = true) (o1 : f1.offset = 2) (k1 : P.cellsOf f1.type = 1) (o2 : f2.offset = 3) (k2 : P.cellsOf f2.type = 1) 
    (u0 : P.underlying g00.type = some (.int .u32)) (u1 : P.underlying g01.type = some (.string)) (u2 : P.underlying f1.type = some (.int .u64)) (u3 : P.underlying f2.type = some (.int .i64)) 
    (h : DataW.trod enc P W 0 (fun _ => true) true fuel t [v] = some x) :
    ∃ L : List (Hld), L.length ≤ maxLen ∧ (∀ i, hB (L.getD i H0)) ∧ Vd.one v ∧ RelC W (fun _ => False) v (rowS eH H0 4 std fun _ => L) := by
  rcases DataW.trod_slice ht h with ⟨hcs, _⟩ | ⟨a, len, cap, elems, rest, n, _, hcs, _, _, hl, hm, hel, hx, _, _⟩
  · simp only [List.cons.injEq, and_true] at hcs
    subst hcs
    exact ⟨[], Nat.zero_le _, fun i => hB_0, rfl, .slc none 0 0 4 _ (fun _ _ => undef) (Nat.le_refl _) (fun i j hi => absurd hi (by omega)) (fun h => absurd h (by omega)) (fun i j hi => absurd hi (by omega))⟩
  · simp only [List.cons.injEq, and_true] at hcs
    subst hcs
    rw [hC] at hx
    have each : ∀ i, i < len → ∃ x : Hld, hB x ∧ ∀ j, j < 4 → ∃ v, W.cell? ((a.add (i * 4)).add j) = some v ∧ Vd.one v ∧ RelC W (fun _ => False) v (getAt (eH std fun _ => x) j) := by
      intro i hi
      have h1 := hx i hi
      rw [List.getElem?_eq_getElem (by omega)] at h1
      exact hds_one hs hC o0 k0 hs0 hone0 o1 k1 o2 k2 u0 u1 u2 u3 h1
    obtain ⟨F, hF⟩ : ∃ F : Nat → Hld, ∀ i, i < len → hB (F i) ∧ ∀ j, j < 4 → ∃ v, W.cell? ((a.add (i * 4)).add j) = some v ∧ Vd.one v ∧ RelC W (fun _ => False) v (getAt (eH std fun _ => F i) j) :=
      ⟨fun i => if h : i < len then Classical.choose (each i h) else H0, fun i h => by simp only [dif_pos h]; exact Classical.choose_spec (each i h)⟩
    have hadd : ∀ i j, a.add (i * 4 + j) = (a.add (i * 4)).add j := fun i j => by
      unfold Addr.add
      by_cases h1 : i = 0
      · subst h1
        simp
      · by_cases h2 : j = 0
        · subst h2
          simp
        · rw [if_neg (by omega), if_neg h2, if_neg (show ¬ i * 4 = 0 by omega)]
          simp [Nat.add_assoc]
    let L : List (Hld) := (List.range len).map F
    have hlen : L.length = len := by simp [L]
    refine ⟨L, by rw [hlen]; omega, fun i => ?_, rfl, ?_⟩
    · by_cases hi : i < len
      · have e : L.getD i H0 = F i := by simp [L, List.getD_eq_getElem?_getD, hi]
        rw [e]; exact (hF i hi).1
      · have e : L.getD i H0 = H0 := by rw [List.getD_eq_getElem?_getD, List.getElem?_eq_none (by rw [hlen]; omega)]; rfl
        rw [e]; exact hB_0
    show RelC W (fun _ => False) _ (.slc L.length 4 (rowF eH H0 std fun _ => L))
    rw [hlen]
    have hget : ∀ i, i < len → L.getD i H0 = F i := fun i hi => by simp [L, List.getD_eq_getElem?_getD, hi]
    refine .slc (some a) len cap 4 _ (fun i j => (W.cell? (a.add (i * 4 + j))).getD undef) hl (fun i j hi hj => ?_) (fun h0 => ⟨a, rfl, ?_⟩) (fun i j hi hj => ?_)
    · obtain ⟨v, h1, h2, _⟩ := (hF i hi).2 j hj
      rw [hadd, h1]
      exact ⟨a, rfl, (hadd i j).symm ▸ h1, h2, fun h => h⟩
    · obtain ⟨v, h1, _⟩ := (hF 0 h0).2 0 (by omega)
      simpa [Addr.add] using World.cell?_spot h1
    · obtain ⟨v, h1, _, h3⟩ := (hF i hi).2 j hj
      simp only [hadd, h1, Option.getD_some]
      show RelC W _ v (getAt (eH std fun _ => L.getD i H0) j)
      rw [hget i hi]
      exact h3
theorem open_hds_rel {W : World} {base : Nat} {t e : TypeId} {v : Value} {d : DataW H} {p : List MemPlace} {ρ : Nat → Value} {N : Nat → Prop} (ht : P.underlying t = some (.slice e)) {f0 f1 f2 g00 g01 : Field} (hs : P.underlying e = some (.struct #[f0, f1, f2])) (hC : P.cellsOf e = 4)
    (o0 : f0.offset = 0) (k0 : P.cellsOf f0.type = 2) (hs0 : P.underlying f0.type = some (.struct #[g00, g01])) (hone0 : oneCellFields P #[g00, g01] = true) (o1 : f1.offset = 2) (k1 : P.cellsOf f1.type = 1) (o2 : f2.offset = 3) (k2 : P.cellsOf f2.type = 1) 
    (u0 : P.underlying g00.type = some (.int .u32)) (u1 : P.underlying g01.type = some (.string)) (u2 : P.underlying f1.type = some (.int .u64)) (u3 : P.underlying f2.type = some (.int .i64)) 
    (hval : Value.okWide P W .any base t v) (h : DataW.Trod enc P W 0 (fun _ => true) true t v d p) :
    ∃ L : List (Hld), L.length ≤ maxLen ∧ (∀ i, hB (L.getD i H0)) ∧ Rel W ρ (fun _ => False) N v (rowS eH H0 4 std fun _ => L) := by
  obtain ⟨a1, len, cap, rfl⟩ := okWide_slice ht hval
  obtain ⟨fuel, hf⟩ := h
  simp only [Value.cells] at hf
  obtain ⟨L, hL, hB, _, hr⟩ := open_hds_trod ht hs hC o0 k0 hs0 hone0 o1 k1 o2 k2 u0 u1 u2 u3 (by simpa using hf)
  exact ⟨L, hL, hB, hr.rel⟩
theorem open_agg1 {W : World} {b0 : Nat} {t : TypeId} {f0 : Field} {v : Value} {d : DataW H} {p : List MemPlace} (hs : P.underlying t = some (.struct #[f0])) (hone : oneCellFields P #[f0] = true) (hC : P.cellsOf t = 1)
    (hv : Value.okWide P W .any b0 t v) (h : DataW.Trod enc P W 0 (fun _ => true) true t v d p) :
    ∃ (v0 : Value) (y0 : DataW H × List MemPlace) (n : Nat), v = .agg #[v0] ∧ d = .agg [y0.1] ∧ p = y0.2 ∧ DataW.trod enc P W 0 (fun _ => true) true n f0.type [v0] = some y0 := by
  obtain ⟨cs, rfl, hsz⟩ := okWide_struct hs hv
  obtain ⟨c0, rfl⟩ : ∃ c0, cs = #[c0] := by
    obtain ⟨l⟩ := cs
    match l, (hsz.trans hC : (Array.mk l).size = 1) with
    | [c0], _ => exact ⟨c0, rfl⟩
  obtain ⟨fuel, hf⟩ := h
  obtain ⟨xs, n, _, hx, hl, hlen, hf⟩ := DataW.trod_struct hs hf
  match xs, hlen with
  | [y0], _ =>
    obtain ⟨o0, k0⟩ := hone_of hone 0 f0 rfl
    have q0 := hf 0 f0 rfl
    rw [o0, k0] at q0
    simp only [Prod.mk.injEq] at hx
    exact ⟨c0, y0, n, rfl, by simpa using hx.1, by simpa using hx.2, by simpa [Value.cells] using q0⟩
end
end Go.Vd

