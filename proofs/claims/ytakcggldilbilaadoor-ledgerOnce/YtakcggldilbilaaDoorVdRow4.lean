/- Ledgers: Sum. -/
import Derived.Test.YtakcggldilbilaaDoorVdFlt2
import Derived.Test.YtakcggldilbilaaDoorVdSeat
import Derived.Test.YtakcggldilbilaaDoorVdRow2
import Derived.Lib.SmallJoins
set_option linter.unusedVariables false
set_option linter.unusedSimpArgs false
set_option maxRecDepth 100000
set_option maxHeartbeats 8000000
namespace Go.Vd
open Go.Proofs Ieee
def fA (a b : Nat) : Nat := (double.add a b).getD 0
def sumW1 (p : Nat × Nat) (e : Hld) : Nat × Nat := if e.st = 1 then (fA p.1 (FloatKind.f64.nearest e.am), fA p.2 0) else if e.st = 3 then (fA p.1 0, fA p.2 (FloatKind.f64.nearest e.am)) else p
def sumW (L : List Hld) : Nat × Nat := L.foldl sumW1 (0, 0)
def tot (z : Int) : List Hld → Int
  | [] => 0
  | e :: L => (if e.st = z then e.am else 0) + tot z L
theorem tot_snoc (z : Int) : ∀ (L : List Hld) (e : Hld), tot z (L ++ [e]) = tot z L + (if e.st = z then e.am else 0)
  | [], e => by simp [tot]
  | x :: L, e => by simp only [List.cons_append, tot, tot_snoc z L e]; omega
theorem sumW_snoc (L : List Hld) (e : Hld) : sumW (L ++ [e]) = sumW1 (sumW L) e := by unfold sumW; rw [List.foldl_append]; rfl
theorem isZ_zero : isZ 0 0 := by
  have h := read_zero false
  have e : double.word false 0 = 0 := by decide
  rw [e] at h
  obtain ⟨k, hk⟩ : ∃ k : Nat, k = 1074 := ⟨_, rfl⟩
  exact ⟨false, k, by rw [h, Int.natAbs_zero, Nat.zero_mul, hk]; rfl, by omega, by omega⟩
def amOk (e : Hld) : Prop := 0 ≤ e.am ∧ e.am < 1000000000000
theorem fA_isZ {x y : Nat} {n m : Int} (hx : isZ x n) (hy : isZ y m) (hb : (n + m).natAbs < 9007199254740992) : (double.add x y).isSome = true ∧ isZ (fA x y) (n + m) := by
  obtain ⟨z, h1, h2⟩ := isZ_add hx hy hb
  unfold fA
  rw [h1]
  exact ⟨rfl, h2⟩
theorem hsum_isZ' : ∀ (n : Nat) (L : List Hld), L.length = n → n ≤ 1000 → (∀ e ∈ L, amOk e) →
    (isZ (sumW L).1 (tot 1 L) ∧ isZ (sumW L).2 (tot 3 L)) ∧ (0 ≤ tot 1 L ∧ tot 1 L ≤ 1000000000000 * n) ∧ (0 ≤ tot 3 L ∧ tot 3 L ≤ 1000000000000 * n)
  | 0, L, hn, _, _ => by
    obtain rfl : L = [] := List.length_eq_zero_iff.1 hn
    exact ⟨⟨isZ_zero, isZ_zero⟩, by simp [tot], by simp [tot]⟩
  | n + 1, L, hn, hb, ha => by
    obtain ⟨M, e, rfl⟩ : ∃ M e, L = M ++ [e] := ⟨L.dropLast, L.getLast (by intro h; rw [h] at hn; simp at hn), (List.dropLast_concat_getLast _).symm⟩
    have hM : M.length = n := by simp at hn; exact hn
    obtain ⟨⟨h1, h2⟩, ⟨h3, h4⟩, h5, h6⟩ := hsum_isZ' n M hM (by omega) fun x hx => ha x (List.mem_append_left _ hx)
    have he := ha e (by simp)
    unfold amOk at he
    rw [sumW_snoc, tot_snoc, tot_snoc]
    unfold sumW1
    by_cases q1 : e.st = 1
    · rw [if_pos q1, if_pos q1, if_neg (by omega)]
      refine ⟨⟨(fA_isZ h1 (isZ_fOf (by omega)) (by omega)).2, (fA_isZ h2 isZ_zero (by omega)).2⟩, by omega, by omega⟩
    · by_cases q3 : e.st = 3
      · rw [if_neg q1, if_pos q3, if_neg q1, if_pos q3]
        refine ⟨⟨(fA_isZ h1 isZ_zero (by omega)).2, (fA_isZ h2 (isZ_fOf (by omega)) (by omega)).2⟩, by omega, by omega⟩
      · rw [if_neg q1, if_neg q3, if_neg q1, if_neg q3]
        refine ⟨⟨by simpa using h1, by simpa using h2⟩, by omega, by omega⟩
theorem hsum_isZ {L : List Hld} (hb : L.length ≤ 1000) (ha : ∀ e ∈ L, amOk e) : (isZ (sumW L).1 (tot 1 L) ∧ isZ (sumW L).2 (tot 3 L)) ∧ (0 ≤ tot 1 L ∧ tot 1 L ≤ 1000000000000000) ∧ (0 ≤ tot 3 L ∧ tot 3 L ≤ 1000000000000000) := by
  obtain ⟨h1, h2, h3⟩ := hsum_isZ' L.length L rfl hb ha
  exact ⟨h1, ⟨h2.1, by omega⟩, h3.1, by omega⟩
def suW (L : List Hld) : Nat × Nat := if leR L = true then sumW L else (0, 0)
theorem leR_am {L : List Hld} (h : leR L = true) (hN : ∀ e ∈ L, 0 ≤ e.am) : ∀ e ∈ L, amOk e := by
  intro e he
  have h2 := (ascB_iff L).1 (by simp only [leR, Bool.and_eq_true] at h; exact h.2)
  obtain ⟨j, hj, rfl⟩ := List.getElem_of_mem he
  have h3 := (h2 j hj).1
  rw [List.getD_eq_getElem?_getD, List.getElem?_eq_getElem hj] at h3
  simp only [Option.getD_some, hR, Bool.and_eq_true, decide_eq_true_eq] at h3
  exact ⟨hN _ he, h3.2.1⟩
theorem leR_len {L : List Hld} (h : leR L = true) : L.length ≤ 256 := by
  simp only [leR, Bool.and_eq_true, decide_eq_true_eq] at h
  exact h.1
theorem suW_yes {L : List Hld} (h : leR L = true) : suW L = sumW L := if_pos h
theorem suW_no {L : List Hld} (h : leR L = false) : suW L = (0, 0) := by unfold suW; rw [h]; rfl
theorem sum_step {L : List Hld} {i a b : Nat} {e : Hld} (hi : i < L.length) (hb : L.length ≤ 256) (ha : ∀ e ∈ L, amOk e) (he : e = L.getD i H0) (hz : (a, b) = sumW (L.take i)) :
    ((double.add a (FloatKind.f64.nearest e.am)).isSome = true ∧ (double.add b 0).isSome = true) ∧ ((double.add a 0).isSome = true ∧ (double.add b (FloatKind.f64.nearest e.am)).isSome = true) ∧
      sumW (L.take (i + 1)) = sumW1 (a, b) e := by
  have hm : e ∈ L := by rw [he, List.getD_eq_getElem?_getD, List.getElem?_eq_getElem hi]; exact List.getElem_mem hi
  obtain ⟨⟨h1, h2⟩, h3, h4⟩ := hsum_isZ (L := L.take i) (by rw [List.length_take]; omega) fun x hx => ha x (List.mem_of_mem_take hx)
  rw [← hz] at h1 h2
  have hae := ha e hm
  unfold amOk at hae
  refine ⟨⟨(fA_isZ h1 (isZ_fOf (by omega)) (by omega)).1, (fA_isZ h2 isZ_zero (by omega)).1⟩, ⟨(fA_isZ h1 isZ_zero (by omega)).1, (fA_isZ h2 (isZ_fOf (by omega)) (by omega)).1⟩, ?_⟩
  rw [← take_snoc (d := H0) hi, sumW_snoc, ← hz, ← he]
attribute [local irreducible] vc
theorem good_lSum (L : List Hld) (hL : L.length ≤ 1000000) (hN : ∀ e ∈ L, 0 ≤ e.am) : GoodP Tryd.prog gl0 67 [sL std fun _ => L] (.cpx (std.tn fun _ => (suW L).1) (std.tn fun _ => (suW L).2)) := by
  refine fn_sound' (T := seatT) (G := gy6) (X := noX) seatT_ok gy6_ok noX_ok noI_ok mixed Tryd.func67 (.one) (fun A => [sL A fun _ => L]) (fun A => .cpx (A.tn fun _ => (suW L).1) (A.tn fun _ => (suW L).2)) fun A hA => ?_
  cbv
  repeat' (first | with_reducible exact True.intro | with_reducible exact dr_ok hA (by kernel_rfl) | with_reducible refine And.intro ?_ ?_ | (intro hc; cbv))
  all_goals first
    | (fail_if_success (refine Exists.intro ?_ ?_)
       clear hN
       subst hA
       simp only [std_add, std_sub, std_mul, std_quo, std_rem, std_band, std_bor, std_bxor, std_shl, std_shr, std_eq, std_ne, std_lt, std_le, std_conv, std_not, std_beq, std_bne, std_ite, std_want, std_and2, std_sadd, std_seq, std_sne, std_slt, std_sle, std_sgt, std_sge, std_slen, std_sget, std_scut, std_ofNat, std_toNat, std_nsub, std_nadd, std_lenOf, std_nz, std_nneg, std_inb, std_upto, std_slt63, std_grow, std_imp, std_impN, std_tr, std_tb, std_ti, std_ts, std_tn, std_tp, std_nmin, std_makes, std_room, std_zeros, std_nilq, std_notq, std_eqi, std_eqn, std_eqb, std_eqs, std_eqv, std_cat, std_lst, std_rset, std_rcopy, std_shift, std_eqr, std_strOf, std_bytesOf, std_isB, std_zOf, zOf_int, std_isI, isI_int, std_getL, std_nmul, std_sOf, sOf_str, std_isS, isS_str, std_fadd, std_fsub, std_fav, std_fsv, std_feq, std_fne, std_flt, std_fle, std_fgt, std_fge, std_fOf, std_fTo, std_fTv, lstOf_V, isRow_V] at *
       first
         | exact ⟨trivial, hL⟩
         | (have h1 : leR L = false := by assumption
            rw [suW_no h1]; done)
         | (have h1 : (!leR L) = true := by assumption
            simp at h1; rw [suW_no h1]; done)
         | trace_state)
    | skip
  all_goals
    have hlr : leR L = true := by
      clear hN
      subst hA
      simp only [std_add, std_sub, std_mul, std_quo, std_rem, std_band, std_bor, std_bxor, std_shl, std_shr, std_eq, std_ne, std_lt, std_le, std_conv, std_not, std_beq, std_bne, std_ite, std_want, std_and2, std_sadd, std_seq, std_sne, std_slt, std_sle, std_sgt, std_sge, std_slen, std_sget, std_scut, std_ofNat, std_toNat, std_nsub, std_nadd, std_lenOf, std_nz, std_nneg, std_inb, std_upto, std_slt63, std_grow, std_imp, std_impN, std_tr, std_tb, std_ti, std_ts, std_tn, std_tp, std_nmin, std_makes, std_room, std_zeros, std_nilq, std_notq, std_eqi, std_eqn, std_eqb, std_eqs, std_eqv, std_cat, std_lst, std_rset, std_rcopy, std_shift, std_eqr, std_strOf, std_bytesOf, std_isB, std_zOf, zOf_int, std_isI, isI_int, std_getL, std_nmul, std_sOf, sOf_str, std_isS, isS_str, std_fadd, std_fsub, std_fav, std_fsv, std_feq, std_fne, std_flt, std_fle, std_fgt, std_fge, std_fOf, std_fTo, std_fTv, lstOf_V, isRow_V] at *
      have h1 : (!leR L) = false := by assumption
      simpa using h1
    have ham := leR_am hlr hN
    have hb := leR_len hlr
    clear hN
    refine ⟨⟨{q : Nat × Nat × Nat // q.1 ≤ L.length ∧ (q.2.1, q.2.2) = sumW (L.take q.1)}, fun b q => [(3, .cpx q.1.2.1 q.1.2.2), (12, .int .i64 (q.1.1 : Nat))], fun b i => [], fun q => L.length - q.1.1, true⟩, ⟨⟨(0, 0, 0), by simp, rfl⟩, ?_⟩, ?_⟩
    · cbv
      subst hA
      simp [-List.getD_eq_getElem?_getD, std_add, std_sub, std_mul, std_quo, std_rem, std_band, std_bor, std_bxor, std_shl, std_shr, std_eq, std_ne, std_lt, std_le, std_conv, std_not, std_beq, std_bne, std_ite, std_want, std_and2, std_sadd, std_seq, std_sne, std_slt, std_sle, std_sgt, std_sge, std_slen, std_sget, std_scut, std_ofNat, std_toNat, std_nsub, std_nadd, std_lenOf, std_nz, std_nneg, std_inb, std_upto, std_slt63, std_grow, std_imp, std_impN, std_tr, std_tb, std_ti, std_ts, std_tn, std_tp, std_nmin, std_makes, std_room, std_zeros, std_nilq, std_notq, std_eqi, std_eqn, std_eqb, std_eqs, std_eqv, std_cat, std_lst, std_rset, std_rcopy, std_shift, std_eqr, std_strOf, std_bytesOf, std_isB, std_zOf, zOf_int, std_isI, isI_int, std_getL, std_nmul, std_sOf, sOf_str, std_isS, isS_str, std_fadd, std_fsub, std_fav, std_fsv, std_feq, std_fne, std_flt, std_fle, std_fgt, std_fge, std_fOf, std_fTo, std_fTv]
    · rintro ⟨⟨i, a, b⟩, hx⟩
      have hi := hx.1
      have hz := hx.2
      simp only at hi hz
      obtain ⟨e, he⟩ : ∃ e, e = L.getD i H0 := ⟨_, rfl⟩
      have hg : L.getD i { s := 0, r := [], am := 0, st := 0 } = e := he.symm
      rcases Nat.lt_or_ge i L.length with hlt | hge
      · have hst := sum_step hlt hb ham he hz
        clear ham hz
        obtain ⟨hv1, hv2, hnx⟩ := hst
        cbv
        repeat' (first | with_reducible exact True.intro | with_reducible exact dr_ok hA (by kernel_rfl) | with_reducible refine And.intro ?_ ?_ | (intro hc; cbv))
        all_goals first
          | (fail_if_success (refine Exists.intro ?_ ?_)
             subst hA
             simp [-List.getD_eq_getElem?_getD, std_add, std_sub, std_mul, std_quo, std_rem, std_band, std_bor, std_bxor, std_shl, std_shr, std_eq, std_ne, std_lt, std_le, std_conv, std_not, std_beq, std_bne, std_ite, std_want, std_and2, std_sadd, std_seq, std_sne, std_slt, std_sle, std_sgt, std_sge, std_slen, std_sget, std_scut, std_ofNat, std_toNat, std_nsub, std_nadd, std_lenOf, std_nz, std_nneg, std_inb, std_upto, std_slt63, std_grow, std_imp, std_impN, std_tr, std_tb, std_ti, std_ts, std_tn, std_tp, std_nmin, std_makes, std_room, std_zeros, std_nilq, std_notq, std_eqi, std_eqn, std_eqb, std_eqs, std_eqv, std_cat, std_lst, std_rset, std_rcopy, std_shift, std_eqr, std_strOf, std_bytesOf, std_isB, std_zOf, zOf_int, std_isI, isI_int, std_getL, std_nmul, std_sOf, sOf_str, std_isS, isS_str, std_fadd, std_fsub, std_fav, std_fsv, std_feq, std_fne, std_flt, std_fle, std_fgt, std_fge, std_fOf, std_fTo, std_fTv, hg] at *
             first
               | done
               | exact ⟨(show (0 : Int) ≤ ((i : Nat) : Int) by omega), (show ((i : Nat) : Int) < ((L.length : Nat) : Int) by omega)⟩
               | exact hv1.1
               | exact hv1.2
               | exact hv2.1
               | exact hv2.2
               | omega
               | trace_state)
          | (obtain ⟨i', hi'⟩ : ∃ i', i' = i + 1 := ⟨_, rfl⟩
             have hw := w_succ' hi' (by omega)
             have hk : e.st = 1 := by
               clear hnx hv1 hv2
               subst hA
               simp [-List.getD_eq_getElem?_getD, std_add, std_sub, std_mul, std_quo, std_rem, std_band, std_bor, std_bxor, std_shl, std_shr, std_eq, std_ne, std_lt, std_le, std_conv, std_not, std_beq, std_bne, std_ite, std_want, std_and2, std_sadd, std_seq, std_sne, std_slt, std_sle, std_sgt, std_sge, std_slen, std_sget, std_scut, std_ofNat, std_toNat, std_nsub, std_nadd, std_lenOf, std_nz, std_nneg, std_inb, std_upto, std_slt63, std_grow, std_imp, std_impN, std_tr, std_tb, std_ti, std_ts, std_tn, std_tp, std_nmin, std_makes, std_room, std_zeros, std_nilq, std_notq, std_eqi, std_eqn, std_eqb, std_eqs, std_eqv, std_cat, std_lst, std_rset, std_rcopy, std_shift, std_eqr, std_strOf, std_bytesOf, std_isB, std_zOf, zOf_int, std_isI, isI_int, std_getL, std_nmul, std_sOf, sOf_str, std_isS, isS_str, std_fadd, std_fsub, std_fav, std_fsv, std_feq, std_fne, std_flt, std_fle, std_fgt, std_fge, std_fOf, std_fTo, std_fTv, hg] at hc
               exact hc
             obtain ⟨a', ha'⟩ : ∃ x, x = fA a (FloatKind.f64.nearest e.am) := ⟨_, rfl⟩
             obtain ⟨b', hb'⟩ : ∃ x, x = fA b 0 := ⟨_, rfl⟩
             have hinv : (a', b') = sumW (L.take i') := by rw [hi', hnx]; unfold sumW1; rw [if_pos hk, ← ha', ← hb']
             have hi'' : i' ≤ L.length := by omega
             refine ⟨⟨(i', a', b'), hi'', hinv⟩, ?_, show L.length - i' < L.length - i by omega⟩
             clear hnx hv1 hv2
             unfold fA at ha' hb'
             cbv
             subst hA
             simp [-List.getD_eq_getElem?_getD, std_add, std_sub, std_mul, std_quo, std_rem, std_band, std_bor, std_bxor, std_shl, std_shr, std_eq, std_ne, std_lt, std_le, std_conv, std_not, std_beq, std_bne, std_ite, std_want, std_and2, std_sadd, std_seq, std_sne, std_slt, std_sle, std_sgt, std_sge, std_slen, std_sget, std_scut, std_ofNat, std_toNat, std_nsub, std_nadd, std_lenOf, std_nz, std_nneg, std_inb, std_upto, std_slt63, std_grow, std_imp, std_impN, std_tr, std_tb, std_ti, std_ts, std_tn, std_tp, std_nmin, std_makes, std_room, std_zeros, std_nilq, std_notq, std_eqi, std_eqn, std_eqb, std_eqs, std_eqv, std_cat, std_lst, std_rset, std_rcopy, std_shift, std_eqr, std_strOf, std_bytesOf, std_isB, std_zOf, zOf_int, std_isI, isI_int, std_getL, std_nmul, std_sOf, sOf_str, std_isS, isS_str, std_fadd, std_fsub, std_fav, std_fsv, std_feq, std_fne, std_flt, std_fle, std_fgt, std_fge, std_fOf, std_fTo, std_fTv, hg]
             first | exact ⟨⟨ha'.symm, hb'.symm⟩, hw⟩ | trace_state)
          | (obtain ⟨i', hi'⟩ : ∃ i', i' = i + 1 := ⟨_, rfl⟩
             have hw := w_succ' hi' (by omega)
             have hk : ¬e.st = 1 ∧ e.st = 3 := by
               clear hnx hv1 hv2
               subst hA
               simp [-List.getD_eq_getElem?_getD, std_add, std_sub, std_mul, std_quo, std_rem, std_band, std_bor, std_bxor, std_shl, std_shr, std_eq, std_ne, std_lt, std_le, std_conv, std_not, std_beq, std_bne, std_ite, std_want, std_and2, std_sadd, std_seq, std_sne, std_slt, std_sle, std_sgt, std_sge, std_slen, std_sget, std_scut, std_ofNat, std_toNat, std_nsub, std_nadd, std_lenOf, std_nz, std_nneg, std_inb, std_upto, std_slt63, std_grow, std_imp, std_impN, std_tr, std_tb, std_ti, std_ts, std_tn, std_tp, std_nmin, std_makes, std_room, std_zeros, std_nilq, std_notq, std_eqi, std_eqn, std_eqb, std_eqs, std_eqv, std_cat, std_lst, std_rset, std_rcopy, std_shift, std_eqr, std_strOf, std_bytesOf, std_isB, std_zOf, zOf_int, std_isI, isI_int, std_getL, std_nmul, std_sOf, sOf_str, std_isS, isS_str, std_fadd, std_fsub, std_fav, std_fsv, std_feq, std_fne, std_flt, std_fle, std_fgt, std_fge, std_fOf, std_fTo, std_fTv, hg] at *
               first | exact ⟨by assumption, by assumption⟩ | exact ⟨by omega, by assumption⟩
             obtain ⟨a', ha'⟩ : ∃ x, x = fA a 0 := ⟨_, rfl⟩
             obtain ⟨b', hb'⟩ : ∃ x, x = fA b (FloatKind.f64.nearest e.am) := ⟨_, rfl⟩
             have hinv : (a', b') = sumW (L.take i') := by rw [hi', hnx]; unfold sumW1; rw [if_neg hk.1, if_pos hk.2, ← ha', ← hb']
             have hi'' : i' ≤ L.length := by omega
             refine ⟨⟨(i', a', b'), hi'', hinv⟩, ?_, show L.length - i' < L.length - i by omega⟩
             clear hnx hv1 hv2
             unfold fA at ha' hb'
             cbv
             subst hA
             simp [-List.getD_eq_getElem?_getD, std_add, std_sub, std_mul, std_quo, std_rem, std_band, std_bor, std_bxor, std_shl, std_shr, std_eq, std_ne, std_lt, std_le, std_conv, std_not, std_beq, std_bne, std_ite, std_want, std_and2, std_sadd, std_seq, std_sne, std_slt, std_sle, std_sgt, std_sge, std_slen, std_sget, std_scut, std_ofNat, std_toNat, std_nsub, std_nadd, std_lenOf, std_nz, std_nneg, std_inb, std_upto, std_slt63, std_grow, std_imp, std_impN, std_tr, std_tb, std_ti, std_ts, std_tn, std_tp, std_nmin, std_makes, std_room, std_zeros, std_nilq, std_notq, std_eqi, std_eqn, std_eqb, std_eqs, std_eqv, std_cat, std_lst, std_rset, std_rcopy, std_shift, std_eqr, std_strOf, std_bytesOf, std_isB, std_zOf, zOf_int, std_isI, isI_int, std_getL, std_nmul, std_sOf, sOf_str, std_isS, isS_str, std_fadd, std_fsub, std_fav, std_fsv, std_feq, std_fne, std_flt, std_fle, std_fgt, std_fge, std_fOf, std_fTo, std_fTv, hg]
             first | exact ⟨⟨ha'.symm, hb'.symm⟩, hw⟩ | trace_state)
          | (obtain ⟨i', hi'⟩ : ∃ i', i' = i + 1 := ⟨_, rfl⟩
             have hw := w_succ' hi' (by omega)
             have hk : ¬e.st = 1 ∧ ¬e.st = 3 := by
               clear hnx hv1 hv2
               subst hA
               simp [-List.getD_eq_getElem?_getD, std_add, std_sub, std_mul, std_quo, std_rem, std_band, std_bor, std_bxor, std_shl, std_shr, std_eq, std_ne, std_lt, std_le, std_conv, std_not, std_beq, std_bne, std_ite, std_want, std_and2, std_sadd, std_seq, std_sne, std_slt, std_sle, std_sgt, std_sge, std_slen, std_sget, std_scut, std_ofNat, std_toNat, std_nsub, std_nadd, std_lenOf, std_nz, std_nneg, std_inb, std_upto, std_slt63, std_grow, std_imp, std_impN, std_tr, std_tb, std_ti, std_ts, std_tn, std_tp, std_nmin, std_makes, std_room, std_zeros, std_nilq, std_notq, std_eqi, std_eqn, std_eqb, std_eqs, std_eqv, std_cat, std_lst, std_rset, std_rcopy, std_shift, std_eqr, std_strOf, std_bytesOf, std_isB, std_zOf, zOf_int, std_isI, isI_int, std_getL, std_nmul, std_sOf, sOf_str, std_isS, isS_str, std_fadd, std_fsub, std_fav, std_fsv, std_feq, std_fne, std_flt, std_fle, std_fgt, std_fge, std_fOf, std_fTo, std_fTv, hg] at *
               exact ⟨by assumption, by assumption⟩
             have hinv : (a, b) = sumW (L.take i') := by rw [hi', hnx]; unfold sumW1; rw [if_neg hk.1, if_neg hk.2]
             have hi'' : i' ≤ L.length := by omega
             refine ⟨⟨(i', a, b), hi'', hinv⟩, ?_, show L.length - i' < L.length - i by omega⟩
             clear hnx hv1 hv2
             cbv
             subst hA
             simp [-List.getD_eq_getElem?_getD, std_add, std_sub, std_mul, std_quo, std_rem, std_band, std_bor, std_bxor, std_shl, std_shr, std_eq, std_ne, std_lt, std_le, std_conv, std_not, std_beq, std_bne, std_ite, std_want, std_and2, std_sadd, std_seq, std_sne, std_slt, std_sle, std_sgt, std_sge, std_slen, std_sget, std_scut, std_ofNat, std_toNat, std_nsub, std_nadd, std_lenOf, std_nz, std_nneg, std_inb, std_upto, std_slt63, std_grow, std_imp, std_impN, std_tr, std_tb, std_ti, std_ts, std_tn, std_tp, std_nmin, std_makes, std_room, std_zeros, std_nilq, std_notq, std_eqi, std_eqn, std_eqb, std_eqs, std_eqv, std_cat, std_lst, std_rset, std_rcopy, std_shift, std_eqr, std_strOf, std_bytesOf, std_isB, std_zOf, zOf_int, std_isI, isI_int, std_getL, std_nmul, std_sOf, sOf_str, std_isS, isS_str, std_fadd, std_fsub, std_fav, std_fsv, std_feq, std_fne, std_flt, std_fle, std_fgt, std_fge, std_fOf, std_fTo, std_fTv, hg]
             first | exact hw | trace_state)
          | trace_state
      · have hie : i = L.length := by omega
        rw [hie, List.take_length] at hz
        have h1 : (suW L).1 = a := by rw [suW_yes hlr, ← hz]
        have h2 : (suW L).2 = b := by rw [suW_yes hlr, ← hz]
        clear ham hz
        cbv
        repeat' (first | with_reducible exact True.intro | with_reducible exact dr_ok hA (by kernel_rfl) | with_reducible refine And.intro ?_ ?_ | (intro hc; cbv))
        all_goals first
          | (exfalso; subst hA; simp [-List.getD_eq_getElem?_getD, std_add, std_sub, std_mul, std_quo, std_rem, std_band, std_bor, std_bxor, std_shl, std_shr, std_eq, std_ne, std_lt, std_le, std_conv, std_not, std_beq, std_bne, std_ite, std_want, std_and2, std_sadd, std_seq, std_sne, std_slt, std_sle, std_sgt, std_sge, std_slen, std_sget, std_scut, std_ofNat, std_toNat, std_nsub, std_nadd, std_lenOf, std_nz, std_nneg, std_inb, std_upto, std_slt63, std_grow, std_imp, std_impN, std_tr, std_tb, std_ti, std_ts, std_tn, std_tp, std_nmin, std_makes, std_room, std_zeros, std_nilq, std_notq, std_eqi, std_eqn, std_eqb, std_eqs, std_eqv, std_cat, std_lst, std_rset, std_rcopy, std_shift, std_eqr, std_strOf, std_bytesOf, std_isB, std_zOf, zOf_int, std_isI, isI_int, std_getL, std_nmul, std_sOf, sOf_str, std_isS, isS_str, std_fadd, std_fsub, std_fav, std_fsv, std_feq, std_fne, std_flt, std_fle, std_fgt, std_fge, std_fOf, std_fTo, std_fTv] at hc; omega)
          | (exfalso; subst hA; rename_i q; simp [-List.getD_eq_getElem?_getD, std_add, std_sub, std_mul, std_quo, std_rem, std_band, std_bor, std_bxor, std_shl, std_shr, std_eq, std_ne, std_lt, std_le, std_conv, std_not, std_beq, std_bne, std_ite, std_want, std_and2, std_sadd, std_seq, std_sne, std_slt, std_sle, std_sgt, std_sge, std_slen, std_sget, std_scut, std_ofNat, std_toNat, std_nsub, std_nadd, std_lenOf, std_nz, std_nneg, std_inb, std_upto, std_slt63, std_grow, std_imp, std_impN, std_tr, std_tb, std_ti, std_ts, std_tn, std_tp, std_nmin, std_makes, std_room, std_zeros, std_nilq, std_notq, std_eqi, std_eqn, std_eqb, std_eqs, std_eqv, std_cat, std_lst, std_rset, std_rcopy, std_shift, std_eqr, std_strOf, std_bytesOf, std_isB, std_zOf, zOf_int, std_isI, isI_int, std_getL, std_nmul, std_sOf, sOf_str, std_isS, isS_str, std_fadd, std_fsub, std_fav, std_fsv, std_feq, std_fne, std_flt, std_fle, std_fgt, std_fge, std_fOf, std_fTo, std_fTv] at q; omega)
          | (exfalso; subst hA; rename_i q q2; simp [-List.getD_eq_getElem?_getD, std_add, std_sub, std_mul, std_quo, std_rem, std_band, std_bor, std_bxor, std_shl, std_shr, std_eq, std_ne, std_lt, std_le, std_conv, std_not, std_beq, std_bne, std_ite, std_want, std_and2, std_sadd, std_seq, std_sne, std_slt, std_sle, std_sgt, std_sge, std_slen, std_sget, std_scut, std_ofNat, std_toNat, std_nsub, std_nadd, std_lenOf, std_nz, std_nneg, std_inb, std_upto, std_slt63, std_grow, std_imp, std_impN, std_tr, std_tb, std_ti, std_ts, std_tn, std_tp, std_nmin, std_makes, std_room, std_zeros, std_nilq, std_notq, std_eqi, std_eqn, std_eqb, std_eqs, std_eqv, std_cat, std_lst, std_rset, std_rcopy, std_shift, std_eqr, std_strOf, std_bytesOf, std_isB, std_zOf, zOf_int, std_isI, isI_int, std_getL, std_nmul, std_sOf, sOf_str, std_isS, isS_str, std_fadd, std_fsub, std_fav, std_fsv, std_feq, std_fne, std_flt, std_fle, std_fgt, std_fge, std_fOf, std_fTo, std_fTv] at q; omega)
          | (exfalso; subst hA; rename_i q q2 q3; simp [-List.getD_eq_getElem?_getD, std_add, std_sub, std_mul, std_quo, std_rem, std_band, std_bor, std_bxor, std_shl, std_shr, std_eq, std_ne, std_lt, std_le, std_conv, std_not, std_beq, std_bne, std_ite, std_want, std_and2, std_sadd, std_seq, std_sne, std_slt, std_sle, std_sgt, std_sge, std_slen, std_sget, std_scut, std_ofNat, std_toNat, std_nsub, std_nadd, std_lenOf, std_nz, std_nneg, std_inb, std_upto, std_slt63, std_grow, std_imp, std_impN, std_tr, std_tb, std_ti, std_ts, std_tn, std_tp, std_nmin, std_makes, std_room, std_zeros, std_nilq, std_notq, std_eqi, std_eqn, std_eqb, std_eqs, std_eqv, std_cat, std_lst, std_rset, std_rcopy, std_shift, std_eqr, std_strOf, std_bytesOf, std_isB, std_zOf, zOf_int, std_isI, isI_int, std_getL, std_nmul, std_sOf, sOf_str, std_isS, isS_str, std_fadd, std_fsub, std_fav, std_fsv, std_feq, std_fne, std_flt, std_fle, std_fgt, std_fge, std_fOf, std_fTo, std_fTv] at q; omega)
          | (subst hA
             simp [-List.getD_eq_getElem?_getD, std_add, std_sub, std_mul, std_quo, std_rem, std_band, std_bor, std_bxor, std_shl, std_shr, std_eq, std_ne, std_lt, std_le, std_conv, std_not, std_beq, std_bne, std_ite, std_want, std_and2, std_sadd, std_seq, std_sne, std_slt, std_sle, std_sgt, std_sge, std_slen, std_sget, std_scut, std_ofNat, std_toNat, std_nsub, std_nadd, std_lenOf, std_nz, std_nneg, std_inb, std_upto, std_slt63, std_grow, std_imp, std_impN, std_tr, std_tb, std_ti, std_ts, std_tn, std_tp, std_nmin, std_makes, std_room, std_zeros, std_nilq, std_notq, std_eqi, std_eqn, std_eqb, std_eqs, std_eqv, std_cat, std_lst, std_rset, std_rcopy, std_shift, std_eqr, std_strOf, std_bytesOf, std_isB, std_zOf, zOf_int, std_isI, isI_int, std_getL, std_nmul, std_sOf, sOf_str, std_isS, isS_str, std_fadd, std_fsub, std_fav, std_fsv, std_feq, std_fne, std_flt, std_fle, std_fgt, std_fge, std_fOf, std_fTo, std_fTv, h1, h2] at *
             first | done | trace_state)
          | trace_state
noncomputable def c_lSum : Ct := fun A args => match args with
  | [.agg [.slc n 4 f]] => some (some (A.tp fun _ => isRow eH H0 4 n f ∧ n ≤ 1000000 ∧ ∀ e ∈ lstOf eH H0 4 n f, 0 ≤ e.am), .cpx (A.tn fun _ => (suW (lstOf eH H0 4 n f)).1) (A.tn fun _ => (suW (lstOf eH H0 4 n f)).2))
  | _ => none
noncomputable def gy7s : Ar → Pu := addC 67 c_lSum (gy6)
theorem gy7s_ok : PuOk Tryd.prog gl0 (gy7s std) := by
  refine addC_ok (gy6_ok) ⟨_, Tryd.func67, rfl, by decide⟩ ?_
  · intro args p r h hp
    unfold c_lSum at h
    split at h <;> cases h
    exact good_sv (good_lSum _ (by rw [lstOf_length hp.1]; exact hp.2.1) hp.2.2) ⟨⟨_, rfl, hp.1.sv, trivial⟩, trivial⟩
end Go.Vd

set_option linter.unusedVariables false
set_option linter.unusedSimpArgs false
set_option maxRecDepth 100000
set_option maxHeartbeats 8000000
namespace Go.Vd
theorem signs2 (s : List UInt8) : signs 2 s = s.all okB := rfl
theorem rr_37 (s : List UInt8) : rr 37 s = (decide (s.length = 12) && s.all okB) := by
  have h : dFind FL 37 = some (2, 12) := rfl
  have e1 : dOk 37 = true := by simp [dOk, h]
  have e2 : dKd 37 = 2 := by simp [dKd, h]
  have e3 : dSz 37 = 12 := by simp [dSz, h]
  unfold rr
  rw [e1, e2, e3, signs2]
  by_cases h : s.length = 12
  · have hne : ¬s = [] := fun e => by rw [e] at h; simp at h
    rw [if_pos ⟨rfl, hne, by omega, fun _ => by omega⟩]
    simp [h]
  · rw [if_neg (fun h' => h (by have := h'.2.2.1; have := h'.2.2.2 (by omega); omega))]
    simp [h]
theorem dR_key {k a s : Int} {p r c : List UInt8} (h : dR k a s p r c = true) : keyOk s r = true ∧ a < 1000000000000 := by
  unfold dR at h
  simp only [Bool.and_eq_true, decide_eq_true_eq] at h
  obtain ⟨_, h2, h3, h4⟩ := h
  rw [rr_37] at h3
  simp only [Bool.and_eq_true, decide_eq_true_eq] at h3
  refine ⟨?_, ?_⟩
  · unfold keyOk
    simp only [Bool.and_eq_true, decide_eq_true_eq]
    exact ⟨h2, h3⟩
  · split at h4
    · simp only [Bool.and_eq_true, decide_eq_true_eq] at h4
      exact h4.2.2.1
    · simp only [Bool.and_eq_true, decide_eq_true_eq] at h4
      omega
theorem hR_of {k a s : Int} {p r c : List UInt8} (h : dR k a s p r c = true) {st : Int} (h1 : 1 ≤ st) (h2 : st ≤ 3) : hR ⟨s, r, a, st⟩ = true := by
  obtain ⟨h3, h4⟩ := dR_key h
  simp only [hR, Bool.and_eq_true, decide_eq_true_eq]
  exact ⟨h3, h4, h1, h2⟩
/-- A ledger stays right. -/
theorem doL_R {L : List Hld} {k a s : Int} {p r c : List UInt8} (hL : leR L = true) (hd : dR k a s p r c = true) (ok : Bool) : leR (doL L k a s r ok) = true := by
  unfold doL
  cases hh : has L s r
  · simp only [Bool.false_eq_true, if_false]
    have hins : ∀ st : Int, 1 ≤ st → st ≤ 3 → leR (opnH L ⟨s, r, a, st⟩) = true := fun st h1 h2 => by
      unfold opnH
      split
      · exact hL
      · rename_i hl
        exact (insH_mid hL (e := ⟨s, r, a, st⟩) (hR_of hd h1 h2) hh hl).1
    split
    · cases ok
      · exact hins 2 (by decide) (by decide)
      · exact hins 1 (by decide) (by decide)
    · split
      · exact hins 3 (by decide) (by decide)
      · exact hL
  · simp only [if_true]
    split
    · exact hL
    · split
      · exact (gvH_mid hL hh).1
      · exact hL
/-- A deal done once more alters nothing, and is answered as before. -/
theorem do_twice {L : List Hld} {k a s : Int} {p r c : List UInt8} (hL : leR L = true) (hd : dR k a s p r c = true) (o1 o2 : Bool) :
    doL (doL L k a s r o1) k a s r o2 = doL L k a s r o1 ∧ doC (doL L k a s r o1) k a s r o2 = doC L k a s r o1 := by
  have hfull : has L s r = false → 256 ≤ L.length → ∀ e : Hld, opnH L e = L := fun _ h e => if_pos h
  cases hh : has L s r
  · by_cases hl : 256 ≤ L.length
    · have e1 : doL L k a s r o1 = L := by unfold doL; rw [hh]; simp [opnH, hl]
      have e2 : doL L k a s r o2 = L := by unfold doL; rw [hh]; simp [opnH, hl]
      rw [e1, e2]
      refine ⟨rfl, ?_⟩
      unfold doC opnC
      rw [hh]
      simp [hl]
    · have hins := fun (st : Int) (h1 : 1 ≤ st) (h2 : st ≤ 3) => insH_mid hL (e := ⟨s, r, a, st⟩) (hR_of hd h1 h2) hh hl
      by_cases hk : k = 1
      · have e1 : doL L k a s r o1 = insH L ⟨s, r, a, if o1 = true then 1 else 2⟩ := by unfold doL opnH; rw [hh, if_pos hk, if_neg hl]; rfl
        have h3 := hins (if o1 = true then 1 else 2) (by cases o1 <;> decide) (by cases o1 <;> decide)
        simp only at h3
        rw [e1]
        refine ⟨by unfold doL; rw [if_pos hk, if_pos h3.2.1], ?_⟩
        unfold doC
        rw [if_pos hk, if_pos hk, if_pos h3.2.1, hh, h3.2.2.2.1]
        unfold opnC
        rw [if_neg hl]
        cases o1 <;> simp [agC]
      · by_cases hk2 : k = 5 ∨ k = 6
        · have e1 : doL L k a s r o1 = insH L ⟨s, r, a, 3⟩ := by unfold doL opnH; rw [hh, if_neg hk, if_pos hk2, if_neg hl]; rfl
          have h3 := hins 3 (by decide) (by decide)
          simp only at h3
          rw [e1]
          refine ⟨?_, ?_⟩
          · unfold doL
            rw [if_neg hk, if_pos hk2, if_pos h3.2.1]
            unfold gvH
            rw [h3.2.2.2.1]
            have hp := (has_pos ((ascB_iff _).1 (leR_asc h3.1).1) h3.2.1).1
            conv => rhs; rw [← List.set_getElem_self hp]
            congr 1
            rw [getD_get hp, h3.2.2.2.1]
          · unfold doC
            rw [if_neg hk, if_neg hk, if_pos hk2, if_pos hk2, if_pos h3.2.1, hh]
            unfold opnC
            rw [if_neg hl]
            rfl
        · have e1 : ∀ M o, doL M k a s r o = M := fun M o => by unfold doL; rw [if_neg hk, if_neg hk2]
          have e2 : ∀ M o, doC M k a s r o = [] := fun M o => by unfold doC; rw [if_neg hk, if_neg hk2]
          rw [e1, e1, e2, e2]
          exact ⟨rfl, rfl⟩
  · by_cases hk : k = 1
    · have e1 : ∀ o, doL L k a s r o = L := fun o => by unfold doL; rw [if_pos hk, if_pos hh]
      rw [e1, e1]
      refine ⟨rfl, ?_⟩
      unfold doC
      rw [if_pos hk, if_pos hh, if_pos hk, if_pos hh]
    · by_cases hk2 : k = 5 ∨ k = 6
      · have h3 := gvH_mid hL hh
        have e1 : ∀ o, doL L k a s r o = gvH L (pos L s r) := fun o => by unfold doL; rw [if_neg hk, if_pos hk2, if_pos hh]
        rw [e1]
        refine ⟨?_, ?_⟩
        · unfold doL
          rw [if_neg hk, if_pos hk2, if_pos h3.2.1, h3.2.2.2.2.1, h3.2.2.2.2.2.1]
        · unfold doC
          rw [if_neg hk, if_pos hk2, if_pos h3.2.1, if_neg hk, if_pos hk2, if_pos hh]
      · have e1 : ∀ M o, doL M k a s r o = M := fun M o => by unfold doL; rw [if_neg hk, if_neg hk2]
        have e2 : ∀ M o, doC M k a s r o = [] := fun M o => by unfold doC; rw [if_neg hk, if_neg hk2]
        rw [e1, e1, e2, e2]
        exact ⟨rfl, rfl⟩
/-- And so with whatever is handed in. -/
theorem le_twice (L : List Hld) (k a s : Int) (p r c : List UInt8) (o1 o2 : Bool) :
    lgL (lgL L k a s p r c o1) k a s p r c o2 = lgL L k a s p r c o1 ∧ lgE (lgL L k a s p r c o1) k a s p r c = lgE L k a s p r c ∧
      (lgE L k a s p r c = 0 → doC (lgL L k a s p r c o1) k a s r o2 = doC L k a s r o1) := by
  by_cases h : lgOk L k a s p r c = true
  · have h2 : leR L = true ∧ dR k a s p r c = true := by simpa [lgOk] using h
    have h3 := do_twice h2.1 h2.2 o1 o2
    have e1 : lgL L k a s p r c o1 = doL L k a s r o1 := if_pos h
    have h4 : lgOk (doL L k a s r o1) k a s p r c = true := by unfold lgOk; rw [doL_R h2.1 h2.2 o1, h2.2]; rfl
    rw [e1]
    refine ⟨by unfold lgL; rw [if_pos h4]; exact h3.1, by unfold lgE; rw [if_pos h4, if_pos h], fun _ => h3.2⟩
  · have e1 : ∀ o, lgL L k a s p r c o = L := fun o => if_neg h
    rw [e1, e1]
    refine ⟨rfl, rfl, fun h0 => ?_⟩
    unfold lgE at h0
    rw [if_neg h] at h0
    cases h0
end Go.Vd

set_option linter.unusedVariables false
namespace Go.Vd
def svn1 : SV → SV → Prop
  | .slc n k f, t => (∃ g, t = .slc n k g ∧ ∀ i j, i < n → j < k → Ceq (f i j) (g i j)) ∨ (n = 0 ∧ ∃ k' g, t = .slc 0 k' g)
  | .nils, t => ∃ k g, t = .slc 0 k g
  | s, t => s = t
theorem svn1_rel {w : World} {ρ : Nat → Value} {rw N : Nat → Prop} {v : Value} {s t : SV} (h : Rel w ρ rw N v s) (e : svn1 s t) : Rel w ρ rw N v t := by
  cases s with
  | slc n k f =>
    rcases e with e | ⟨rfl, k', g, rfl⟩
    · exact sv1_rel h e
    · cases h with
      | slc a _ c _ _ g2 hn hc ha hr => exact .slc a 0 c k' g (fun _ _ => undef) hn (fun i j hi => absurd hi (by omega)) (fun h => absurd h (by omega)) (fun i j hi => absurd hi (by omega))
  | nils =>
    obtain ⟨k, g, rfl⟩ := e
    cases h with
    | nils => exact .slc none 0 0 k g (fun _ _ => undef) (Nat.le_refl _) (fun i j hi => absurd hi (by omega)) (fun h => absurd h (by omega)) (fun i j hi => absurd hi (by omega))
  | _ => cases e; exact h
def svn2 : SV → SV → Prop
  | .agg l, t => ∃ m, t = .agg m ∧ All2 svn1 l m
  | s, t => svn1 s t
theorem svn2_rel {w : World} {ρ : Nat → Value} {rw N : Nat → Prop} {v : Value} {s t : SV} (h : Rel w ρ rw N v s) (e : svn2 s t) : Rel w ρ rw N v t := by
  cases s with
  | agg l =>
    obtain ⟨m, rfl, he⟩ := e
    generalize hs : SV.agg l = s at h
    cases h with
    | agg cs l' hl h1 hh =>
      cases hs
      have hlen := he.length
      refine .agg _ _ (by omega) h1 fun i v t hv ht => ?_
      have hi : i < l.length := by have := (List.getElem?_eq_some_iff.1 ht).1; omega
      exact svn1_rel (hh i v _ hv (List.getElem?_eq_getElem hi)) (he.get i _ t (List.getElem?_eq_getElem hi) ht)
    | _ => cases hs
  | _ => exact svn1_rel h e
theorem good_svn {P : Program} {gl : Nat → SV} {f : FuncId} {args args' : List SV} {r : SV} (h : GoodP P gl f args' r) (he : All2 svn2 args args') : GoodP P gl f args r := by
  intro w ρ rw N vs hfr hrw hg hargs
  refine h w ρ rw N vs hfr hrw hg ?_
  have key : ∀ {vs : List Value} {l m : List SV}, All2 (Rel w ρ rw N) vs l → All2 svn2 l m → All2 (Rel w ρ rw N) vs m := by
    intro vs
    induction vs with
    | nil => intro l m h1 h2; cases l with
      | nil => cases m with
        | nil => trivial
        | cons => exact h2.elim
      | cons => exact h1.elim
    | cons v vs ih => intro l m h1 h2; cases l with
      | nil => exact h1.elim
      | cons s l => cases m with
        | nil => exact h2.elim
        | cons t m => exact ⟨svn2_rel h1.1 h2.1, ih h1.2 h2.2⟩
  exact key hargs he
end Go.Vd

set_option linter.unusedVariables false
set_option linter.unusedSimpArgs false
set_option maxRecDepth 100000
set_option maxHeartbeats 8000000
namespace Go.Vd
open Go.Proofs Ieee
noncomputable def c_leDo : Ct := fun A args => match args with
  | [.agg [.slc n 4 f], .agg [.int .i64 k, .str p, .int .u64 a, .int .u32 s, .str r, .str c], .bool ok] => some (some (A.tp fun _ => (isRow eH H0 4 n f ∧ n ≤ 1000000) ∧ p.length ≤ 100000 ∧ r.length ≤ 1000000 ∧ c.length ≤ 1000000), .tup [sL A fun _ => lgL (lstOf eH H0 4 n f) k a s p r c ok, anS A (fun _ => lstOf eH H0 4 n f) k a s p r c ok, .int .i64 (A.ti fun _ => lgE (lstOf eH H0 4 n f) k a s p r c)])
  | [.agg [.slc m 1 g], .agg [.int .i64 k, .str p, .int .u64 a, .int .u32 s, .str r, .str c], .bool ok] => some (some (A.tp fun _ => m = 0 ∧ p.length ≤ 100000 ∧ r.length ≤ 1000000 ∧ c.length ≤ 1000000), .tup [sL A fun _ => lgL [] k a s p r c ok, anS A (fun _ => []) k a s p r c ok, .int .i64 (A.ti fun _ => lgE [] k a s p r c)])
  | _ => none
noncomputable def gy8 : Ar → Pu := addC 61 c_leDo gy7s
theorem gy8_ok : PuOk Tryd.prog gl0 (gy8 std) := by
  refine addC_ok gy7s_ok ⟨_, Tryd.func61, rfl, by decide⟩ ?_
  intro args p r h hp
  unfold c_leDo at h
  split at h <;> cases h
  · exact good_svn (good_leDo _ _ _ _ _ _ _ _ (by rw [lstOf_length hp.1.1]; exact hp.1.2) hp.2.1 hp.2.2.1 hp.2.2.2) ⟨⟨_, rfl, .inl hp.1.1.sv, trivial⟩, ⟨_, rfl, rfl, rfl, rfl, rfl, rfl, rfl, trivial⟩, rfl, trivial⟩
  · exact good_svn (good_leDo [] _ _ _ _ _ _ _ (by simp) hp.2.1 hp.2.2.1 hp.2.2.2) ⟨⟨_, rfl, .inr ⟨hp.1, _, _, rfl⟩, trivial⟩, ⟨_, rfl, rfl, rfl, rfl, rfl, rfl, rfl, trivial⟩, rfl, trivial⟩
def rr1 : List UInt8 := [82, 82, 78, 48, 48, 48, 48, 48, 48, 48, 48, 49]
attribute [local irreducible] vc
theorem good_leAwake  : GoodP Tryd.prog gl0 57 [] (.bool true) := by
  refine fn_sound' (T := seatT) (G := gy8) (X := noX) seatT_ok gy8_ok noX_ok noI_ok mixed Tryd.func57 (.one) (fun A => []) (fun A => .bool true) fun A hA => ?_
  cbv
  repeat' (first | with_reducible exact True.intro | with_reducible exact dr_ok hA (by kernel_rfl) | with_reducible refine And.intro ?_ ?_ | (intro hc; cbv))
  all_goals (subst hA; try simp only [std_add, std_sub, std_mul, std_quo, std_rem, std_band, std_bor, std_bxor, std_shl, std_shr, std_eq, std_ne, std_lt, std_le, std_conv, std_not, std_beq, std_bne, std_ite, std_want, std_and2, std_sadd, std_seq, std_sne, std_slt, std_sle, std_sgt, std_sge, std_slen, std_sget, std_scut, std_ofNat, std_toNat, std_nsub, std_nadd, std_lenOf, std_nz, std_nneg, std_inb, std_upto, std_slt63, std_grow, std_imp, std_impN, std_tr, std_tb, std_ti, std_ts, std_tn, std_tp, std_nmin, std_makes, std_room, std_zeros, std_nilq, std_notq, std_eqi, std_eqn, std_eqb, std_eqs, std_eqv, std_cat, std_lst, std_rset, std_rcopy, std_shift, std_eqr, std_strOf, std_bytesOf, std_isB, std_zOf, zOf_int, std_isI, isI_int, std_getL, std_nmul, std_sOf, sOf_str, std_isS, isS_str, std_fadd, std_fsub, std_fav, std_fsv, std_feq, std_fne, std_flt, std_fle, std_fgt, std_fge, std_fOf, std_fTo, std_fTv, strOf_lit, lstOf_lit inj_eB, lstOf_lit inj_eZ, lstOf_lit inj_eBs, lstOf_lit inj_eS, lstOf_V, isRow_V] at *)
  all_goals first
    | exact ⟨trivial, by decide⟩
    | decide
    | trace_state
end Go.Vd

set_option linter.unusedVariables false
set_option linter.unusedSimpArgs false
set_option maxRecDepth 100000
set_option maxHeartbeats 8000000
namespace Go.Vd
open Go.Proofs
attribute [local irreducible] vc
theorem good_kShort (s : Int) (r : List UInt8) : GoodP Tryd.prog gl0 43 [sKey std s r] (.bool (std.tb fun _ => decide (r.length ≤ 300))) := by
  refine fn_sound' (T := seatT) (G := noC) (X := noX) seatT_ok noC_ok noX_ok noI_ok mixed Tryd.func43 (.one) (fun A => [sKey A s r]) (fun A => .bool (A.tb fun _ => decide (r.length ≤ 300))) fun A hA => ?_
  cbv
  repeat' (first | with_reducible exact True.intro | with_reducible exact dr_ok hA (by kernel_rfl) | with_reducible refine And.intro ?_ ?_ | (intro hc; cbv))
  all_goals (subst hA; simp [std_add, std_sub, std_mul, std_quo, std_rem, std_band, std_bor, std_bxor, std_shl, std_shr, std_eq, std_ne, std_lt, std_le, std_conv, std_not, std_beq, std_bne, std_ite, std_want, std_and2, std_sadd, std_seq, std_sne, std_slt, std_sle, std_sgt, std_sge, std_slen, std_sget, std_scut, std_ofNat, std_toNat, std_nsub, std_nadd, std_lenOf, std_nz, std_nneg, std_inb, std_upto, std_slt63, std_grow, std_imp, std_impN, std_tr, std_tb, std_ti, std_ts, std_tn, std_tp, std_nmin, std_makes, std_room, std_zeros, std_nilq, std_notq, std_eqi, std_eqn, std_eqb, std_eqs, std_eqv, std_cat, std_lst, std_rset, std_rcopy, std_shift, std_eqr, std_strOf, std_bytesOf, std_isB, std_zOf, zOf_int, std_isI, isI_int, std_getL, std_nmul, std_sOf, sOf_str, std_isS, isS_str, std_fadd, std_fsub, std_fav, std_fsv, std_feq, std_fne, std_flt, std_fle, std_fgt, std_fge, std_fOf, std_fTo, std_fTv] at *)
  all_goals omega
noncomputable def c_kShort : Ct := fun A args => match args with
  | [.agg [.int .u32 s, .str r]] => some (none, .bool (A.tb fun _ => decide (r.length ≤ 300)))
  | _ => none
noncomputable def gy7 : Ar → Pu := addC 43 c_kShort (gy6)
theorem gy7_ok : PuOk Tryd.prog gl0 (gy7 std) := by
  refine addC_ok (gy6_ok) ⟨_, Tryd.func43, rfl, by decide⟩ ?_
  · intro args p r h hp
    unfold c_kShort at h
    split at h <;> cases h
    exact good_kShort _ _
def shE (e : Hld) : Bool := decide (e.r.length ≤ 300)
def shL (L : List Hld) : Bool := decide (L.length ≤ 300) && L.all shE
theorem shL_iff {L : List Hld} : shL L = true ↔ L.length ≤ 300 ∧ ∀ e ∈ L, shE e = true := by simp [shL]
theorem shL_no {L : List Hld} {i : Nat} (hi : i < L.length) (h : shE (L.getD i H0) = false) : shL L = false := by
  cases e : shL L
  · rfl
  · have := (shL_iff.1 e).2 (L.getD i H0) (by rw [List.getD_eq_getElem?_getD, List.getElem?_eq_getElem hi]; exact List.getElem_mem hi)
    rw [h] at this
    cases this
theorem shL_yes {L : List Hld} (h : ∀ j, j < L.length → shE (L.getD j H0) = true) : shL L = decide (L.length ≤ 300) := by
  have : L.all shE = true := List.all_eq_true.2 fun d hd => by
    obtain ⟨j, hj, e⟩ := List.getElem_of_mem hd
    have := h j hj
    rw [List.getD_eq_getElem?_getD, List.getElem?_eq_getElem hj] at this
    exact e ▸ this
  unfold shL
  rw [this, Bool.and_true]
theorem shL_big {L : List Hld} (h : ¬L.length ≤ 300) : shL L = false := by simp [shL, h]
theorem good_lShort (L : List Hld) (hL : L.length ≤ 9223372036854775807) : GoodP Tryd.prog gl0 58 [.agg [rowS eH H0 4 std fun _ => L]] (.bool (std.tb fun _ => shL L)) := by
  refine fn_sound' (T := seatT) (G := gy7) (X := noX) seatT_ok gy7_ok noX_ok noI_ok mixed Tryd.func58 (.one) (fun A => [.agg [rowS eH H0 4 A fun _ => L]]) (fun A => .bool (A.tb fun _ => shL L)) fun A hA => ?_
  cbv
  repeat' (first | with_reducible exact True.intro | with_reducible exact dr_ok hA (by kernel_rfl) | with_reducible refine And.intro ?_ ?_ | (intro hc; cbv))
  refine ⟨⟨{i : Nat // i ≤ L.length ∧ i ≤ 300 ∧ ∀ j, j < i → shE (L.getD j H0) = true}, fun b i => [(3, .int .i64 (i.1 : Nat))], fun b i => [], fun i => L.length - i.1, true⟩, ⟨⟨0, by omega, by omega, by simp⟩, ?_⟩, ?_⟩
  · cbv
    subst hA
    simp [-List.getD_eq_getElem?_getD, std_add, std_sub, std_mul, std_quo, std_rem, std_band, std_bor, std_bxor, std_shl, std_shr, std_eq, std_ne, std_lt, std_le, std_conv, std_not, std_beq, std_bne, std_ite, std_want, std_and2, std_sadd, std_seq, std_sne, std_slt, std_sle, std_sgt, std_sge, std_slen, std_sget, std_scut, std_ofNat, std_toNat, std_nsub, std_nadd, std_lenOf, std_nz, std_nneg, std_inb, std_upto, std_slt63, std_grow, std_imp, std_impN, std_tr, std_tb, std_ti, std_ts, std_tn, std_tp, std_nmin, std_makes, std_room, std_zeros, std_nilq, std_notq, std_eqi, std_eqn, std_eqb, std_eqs, std_eqv, std_cat, std_lst, std_rset, std_rcopy, std_shift, std_eqr, std_strOf, std_bytesOf, std_isB, std_zOf, zOf_int, std_isI, isI_int, std_getL, std_nmul, std_sOf, sOf_str, std_isS, isS_str, std_fadd, std_fsub, std_fav, std_fsv, std_feq, std_fne, std_flt, std_fle, std_fgt, std_fge, std_fOf, std_fTo, std_fTv]
  · rintro ⟨i, hx⟩
    have hi := hx.1
    have hi2 := hx.2.1
    have h0 := hx.2.2
    obtain ⟨e, he⟩ : ∃ e, e = L.getD i H0 := ⟨_, rfl⟩
    have hg : L.getD i { s := 0, r := [], am := 0, st := 0 } = e := he.symm
    by_cases hlt : i < L.length ∧ i < 300
    · have hno := fun h => shL_no (L := L) hlt.1 (he ▸ h)
      cbv
      repeat' (first | with_reducible exact True.intro | with_reducible exact dr_ok hA (by kernel_rfl) | with_reducible refine And.intro ?_ ?_ | (intro hc; cbv))
      all_goals first
        | (fail_if_success (refine Exists.intro ?_ ?_)
           clear h0
           subst hA
           simp [-List.getD_eq_getElem?_getD, std_add, std_sub, std_mul, std_quo, std_rem, std_band, std_bor, std_bxor, std_shl, std_shr, std_eq, std_ne, std_lt, std_le, std_conv, std_not, std_beq, std_bne, std_ite, std_want, std_and2, std_sadd, std_seq, std_sne, std_slt, std_sle, std_sgt, std_sge, std_slen, std_sget, std_scut, std_ofNat, std_toNat, std_nsub, std_nadd, std_lenOf, std_nz, std_nneg, std_inb, std_upto, std_slt63, std_grow, std_imp, std_impN, std_tr, std_tb, std_ti, std_ts, std_tn, std_tp, std_nmin, std_makes, std_room, std_zeros, std_nilq, std_notq, std_eqi, std_eqn, std_eqb, std_eqs, std_eqv, std_cat, std_lst, std_rset, std_rcopy, std_shift, std_eqr, std_strOf, std_bytesOf, std_isB, std_zOf, zOf_int, std_isI, isI_int, std_getL, std_nmul, std_sOf, sOf_str, std_isS, isS_str, std_fadd, std_fsub, std_fav, std_fsv, std_feq, std_fne, std_flt, std_fle, std_fgt, std_fge, std_fOf, std_fTo, std_fTv, hg] at *
           first
             | done
             | exact ⟨(show (0 : Int) ≤ ((i : Nat) : Int) by omega), (show ((i : Nat) : Int) < ((L.length : Nat) : Int) by omega)⟩
             | exact hno (by simp [shE]; omega)
             | exact hno hc
             | omega
             | (exfalso; omega)
             | trace_state)
        | (obtain ⟨i', hi'⟩ : ∃ i', i' = i + 1 := ⟨_, rfl⟩
           have hk : shE e = true := by
             clear h0
             subst hA
             simp [-List.getD_eq_getElem?_getD, std_add, std_sub, std_mul, std_quo, std_rem, std_band, std_bor, std_bxor, std_shl, std_shr, std_eq, std_ne, std_lt, std_le, std_conv, std_not, std_beq, std_bne, std_ite, std_want, std_and2, std_sadd, std_seq, std_sne, std_slt, std_sle, std_sgt, std_sge, std_slen, std_sget, std_scut, std_ofNat, std_toNat, std_nsub, std_nadd, std_lenOf, std_nz, std_nneg, std_inb, std_upto, std_slt63, std_grow, std_imp, std_impN, std_tr, std_tb, std_ti, std_ts, std_tn, std_tp, std_nmin, std_makes, std_room, std_zeros, std_nilq, std_notq, std_eqi, std_eqn, std_eqb, std_eqs, std_eqv, std_cat, std_lst, std_rset, std_rcopy, std_shift, std_eqr, std_strOf, std_bytesOf, std_isB, std_zOf, zOf_int, std_isI, isI_int, std_getL, std_nmul, std_sOf, sOf_str, std_isS, isS_str, std_fadd, std_fsub, std_fav, std_fsv, std_feq, std_fne, std_flt, std_fle, std_fgt, std_fge, std_fOf, std_fTo, std_fTv, hg] at hc
             first | exact hc | (simp [shE]; omega)
           refine ⟨⟨i', by omega, by omega, fun j hj => ?_⟩, ?_, show L.length - i' < L.length - i by omega⟩
           · rcases Nat.lt_or_ge j i with h | h
             · exact h0 j h
             · obtain rfl : j = i := by omega
               rw [← he]; exact hk
           · cbv
             subst hA
             simp [-List.getD_eq_getElem?_getD, std_add, std_sub, std_mul, std_quo, std_rem, std_band, std_bor, std_bxor, std_shl, std_shr, std_eq, std_ne, std_lt, std_le, std_conv, std_not, std_beq, std_bne, std_ite, std_want, std_and2, std_sadd, std_seq, std_sne, std_slt, std_sle, std_sgt, std_sge, std_slen, std_sget, std_scut, std_ofNat, std_toNat, std_nsub, std_nadd, std_lenOf, std_nz, std_nneg, std_inb, std_upto, std_slt63, std_grow, std_imp, std_impN, std_tr, std_tb, std_ti, std_ts, std_tn, std_tp, std_nmin, std_makes, std_room, std_zeros, std_nilq, std_notq, std_eqi, std_eqn, std_eqb, std_eqs, std_eqv, std_cat, std_lst, std_rset, std_rcopy, std_shift, std_eqr, std_strOf, std_bytesOf, std_isB, std_zOf, zOf_int, std_isI, isI_int, std_getL, std_nmul, std_sOf, sOf_str, std_isS, isS_str, std_fadd, std_fsub, std_fav, std_fsv, std_feq, std_fne, std_flt, std_fle, std_fgt, std_fge, std_fOf, std_fTo, std_fTv]
             exact w_succ' hi' (by omega))
        | trace_state
    · have hans : shL L = decide (L.length ≤ 300) := by
        by_cases hb : L.length ≤ 300
        · exact shL_yes fun j hj => h0 j (by omega)
        · rw [shL_big hb, decide_eq_false hb]
      cbv
      repeat' (first | with_reducible exact True.intro | with_reducible exact dr_ok hA (by kernel_rfl) | with_reducible refine And.intro ?_ ?_ | (intro hc; cbv))
      all_goals first
        | (exfalso
           clear h0
           subst hA
           simp [-List.getD_eq_getElem?_getD, std_add, std_sub, std_mul, std_quo, std_rem, std_band, std_bor, std_bxor, std_shl, std_shr, std_eq, std_ne, std_lt, std_le, std_conv, std_not, std_beq, std_bne, std_ite, std_want, std_and2, std_sadd, std_seq, std_sne, std_slt, std_sle, std_sgt, std_sge, std_slen, std_sget, std_scut, std_ofNat, std_toNat, std_nsub, std_nadd, std_lenOf, std_nz, std_nneg, std_inb, std_upto, std_slt63, std_grow, std_imp, std_impN, std_tr, std_tb, std_ti, std_ts, std_tn, std_tp, std_nmin, std_makes, std_room, std_zeros, std_nilq, std_notq, std_eqi, std_eqn, std_eqb, std_eqs, std_eqv, std_cat, std_lst, std_rset, std_rcopy, std_shift, std_eqr, std_strOf, std_bytesOf, std_isB, std_zOf, zOf_int, std_isI, isI_int, std_getL, std_nmul, std_sOf, sOf_str, std_isS, isS_str, std_fadd, std_fsub, std_fav, std_fsv, std_feq, std_fne, std_flt, std_fle, std_fgt, std_fge, std_fOf, std_fTo, std_fTv, hg] at hc
           omega)
        | (exfalso
           clear h0
           subst hA
           rename_i q
           simp [-List.getD_eq_getElem?_getD, std_add, std_sub, std_mul, std_quo, std_rem, std_band, std_bor, std_bxor, std_shl, std_shr, std_eq, std_ne, std_lt, std_le, std_conv, std_not, std_beq, std_bne, std_ite, std_want, std_and2, std_sadd, std_seq, std_sne, std_slt, std_sle, std_sgt, std_sge, std_slen, std_sget, std_scut, std_ofNat, std_toNat, std_nsub, std_nadd, std_lenOf, std_nz, std_nneg, std_inb, std_upto, std_slt63, std_grow, std_imp, std_impN, std_tr, std_tb, std_ti, std_ts, std_tn, std_tp, std_nmin, std_makes, std_room, std_zeros, std_nilq, std_notq, std_eqi, std_eqn, std_eqb, std_eqs, std_eqv, std_cat, std_lst, std_rset, std_rcopy, std_shift, std_eqr, std_strOf, std_bytesOf, std_isB, std_zOf, zOf_int, std_isI, isI_int, std_getL, std_nmul, std_sOf, sOf_str, std_isS, isS_str, std_fadd, std_fsub, std_fav, std_fsv, std_feq, std_fne, std_flt, std_fle, std_fgt, std_fge, std_fOf, std_fTo, std_fTv, hg] at q
           omega)
        | (clear h0
           subst hA
           simp [-List.getD_eq_getElem?_getD, std_add, std_sub, std_mul, std_quo, std_rem, std_band, std_bor, std_bxor, std_shl, std_shr, std_eq, std_ne, std_lt, std_le, std_conv, std_not, std_beq, std_bne, std_ite, std_want, std_and2, std_sadd, std_seq, std_sne, std_slt, std_sle, std_sgt, std_sge, std_slen, std_sget, std_scut, std_ofNat, std_toNat, std_nsub, std_nadd, std_lenOf, std_nz, std_nneg, std_inb, std_upto, std_slt63, std_grow, std_imp, std_impN, std_tr, std_tb, std_ti, std_ts, std_tn, std_tp, std_nmin, std_makes, std_room, std_zeros, std_nilq, std_notq, std_eqi, std_eqn, std_eqb, std_eqs, std_eqv, std_cat, std_lst, std_rset, std_rcopy, std_shift, std_eqr, std_strOf, std_bytesOf, std_isB, std_zOf, zOf_int, std_isI, isI_int, std_getL, std_nmul, std_sOf, sOf_str, std_isS, isS_str, std_fadd, std_fsub, std_fav, std_fsv, std_feq, std_fne, std_flt, std_fle, std_fgt, std_fge, std_fOf, std_fTo, std_fTv, hg] at *
           first
             | done
             | (rw [hans, Bool.eq_iff_iff]; simp; omega)
             | (rw [hans]; simp; done)
             | omega
             | (intros; omega)
             | trace_state)
        | trace_state
noncomputable def c_lShort : Ct := fun A args => match args with
  | [.agg [.slc n 4 f]] => some (some (A.tp fun _ => isRow eH H0 4 n f ∧ n ≤ 9223372036854775807), .bool (A.tb fun _ => shL (lstOf eH H0 4 n f)))
  | _ => none
end Go.Vd

set_option linter.unusedVariables false
set_option linter.unusedSimpArgs false
set_option maxRecDepth 100000
set_option maxHeartbeats 8000000
namespace Go.Vd
open Go.Proofs
theorem Hld_ext {x y : Hld} (h0 : x.s = y.s) (h1 : x.r = y.r) (h2 : x.am = y.am) (h3 : x.st = y.st) : x = y := by cases x; cases y; simp_all
attribute [local irreducible] vc
theorem good_lSame (L M : List Hld) (hL : L.length ≤ 1000000) : GoodP Tryd.prog gl0 66 [.agg [rowS eH H0 4 std fun _ => L], .agg [rowS eH H0 4 std fun _ => M]] (.bool (std.tb fun _ => decide (L = M))) := by
  refine fn_sound' (T := seatT) (G := noC) (X := noX) seatT_ok noC_ok noX_ok noI_ok mixed Tryd.func66 (.one) (fun A => [.agg [rowS eH H0 4 A fun _ => L], .agg [rowS eH H0 4 A fun _ => M]]) (fun A => .bool (A.tb fun _ => decide (L = M))) fun A hA => ?_
  cbv
  repeat' (first | with_reducible exact True.intro | with_reducible exact dr_ok hA (by kernel_rfl) | with_reducible refine And.intro ?_ ?_ | (intro hc; cbv))
  rotate_right
  all_goals first
    | (fail_if_success (refine Exists.intro ?_ ?_)
       subst hA
       simp [std_add, std_sub, std_mul, std_quo, std_rem, std_band, std_bor, std_bxor, std_shl, std_shr, std_eq, std_ne, std_lt, std_le, std_conv, std_not, std_beq, std_bne, std_ite, std_want, std_and2, std_sadd, std_seq, std_sne, std_slt, std_sle, std_sgt, std_sge, std_slen, std_sget, std_scut, std_ofNat, std_toNat, std_nsub, std_nadd, std_lenOf, std_nz, std_nneg, std_inb, std_upto, std_slt63, std_grow, std_imp, std_impN, std_tr, std_tb, std_ti, std_ts, std_tn, std_tp, std_nmin, std_makes, std_room, std_zeros, std_nilq, std_notq, std_eqi, std_eqn, std_eqb, std_eqs, std_eqv, std_cat, std_lst, std_rset, std_rcopy, std_shift, std_eqr, std_strOf, std_bytesOf, std_isB, std_zOf, zOf_int, std_isI, isI_int, std_getL, std_nmul, std_sOf, sOf_str, std_isS, isS_str, std_fadd, std_fsub, std_fav, std_fsv, std_feq, std_fne, std_flt, std_fle, std_fgt, std_fge, std_fOf, std_fTo, std_fTv] at *
       first | done | (intro e; subst e; exact absurd rfl (by assumption)))
    | skip
  have hl : L.length = M.length := by subst hA; simp [std_add, std_sub, std_mul, std_quo, std_rem, std_band, std_bor, std_bxor, std_shl, std_shr, std_eq, std_ne, std_lt, std_le, std_conv, std_not, std_beq, std_bne, std_ite, std_want, std_and2, std_sadd, std_seq, std_sne, std_slt, std_sle, std_sgt, std_sge, std_slen, std_sget, std_scut, std_ofNat, std_toNat, std_nsub, std_nadd, std_lenOf, std_nz, std_nneg, std_inb, std_upto, std_slt63, std_grow, std_imp, std_impN, std_tr, std_tb, std_ti, std_ts, std_tn, std_tp, std_nmin, std_makes, std_room, std_zeros, std_nilq, std_notq, std_eqi, std_eqn, std_eqb, std_eqs, std_eqv, std_cat, std_lst, std_rset, std_rcopy, std_shift, std_eqr, std_strOf, std_bytesOf, std_isB, std_zOf, zOf_int, std_isI, isI_int, std_getL, std_nmul, std_sOf, sOf_str, std_isS, isS_str, std_fadd, std_fsub, std_fav, std_fsv, std_feq, std_fne, std_flt, std_fle, std_fgt, std_fge, std_fOf, std_fTo, std_fTv] at hc; omega
  refine ⟨⟨{i : Nat // i ≤ L.length ∧ L.take i = M.take i}, fun b i => [(5, .int .i64 (i.1 : Nat))], fun b i => [], fun i => L.length - i.1, true⟩, ⟨⟨0, by omega, rfl⟩, ?_⟩, ?_⟩
  · cbv
    subst hA
    simp [-List.getD_eq_getElem?_getD, std_add, std_sub, std_mul, std_quo, std_rem, std_band, std_bor, std_bxor, std_shl, std_shr, std_eq, std_ne, std_lt, std_le, std_conv, std_not, std_beq, std_bne, std_ite, std_want, std_and2, std_sadd, std_seq, std_sne, std_slt, std_sle, std_sgt, std_sge, std_slen, std_sget, std_scut, std_ofNat, std_toNat, std_nsub, std_nadd, std_lenOf, std_nz, std_nneg, std_inb, std_upto, std_slt63, std_grow, std_imp, std_impN, std_tr, std_tb, std_ti, std_ts, std_tn, std_tp, std_nmin, std_makes, std_room, std_zeros, std_nilq, std_notq, std_eqi, std_eqn, std_eqb, std_eqs, std_eqv, std_cat, std_lst, std_rset, std_rcopy, std_shift, std_eqr, std_strOf, std_bytesOf, std_isB, std_zOf, zOf_int, std_isI, isI_int, std_getL, std_nmul, std_sOf, sOf_str, std_isS, isS_str, std_fadd, std_fsub, std_fav, std_fsv, std_feq, std_fne, std_flt, std_fle, std_fgt, std_fge, std_fOf, std_fTo, std_fTv]
  · rintro ⟨i, hx⟩
    have hi := hx.1
    have hz := hx.2
    obtain ⟨e, he⟩ : ∃ e, e = L.getD i H0 := ⟨_, rfl⟩
    obtain ⟨g, hgg⟩ : ∃ g, g = M.getD i H0 := ⟨_, rfl⟩
    have h1 : L.getD i { s := 0, r := [], am := 0, st := 0 } = e := he.symm
    have h2 : M.getD i { s := 0, r := [], am := 0, st := 0 } = g := hgg.symm
    have hne : ¬e = g → ¬L = M := fun hn hLM => hn (by rw [he, hgg, hLM])
    rcases Nat.lt_or_ge i L.length with hlt | hge
    · cbv
      repeat' (first | with_reducible exact True.intro | with_reducible exact dr_ok hA (by kernel_rfl) | with_reducible refine And.intro ?_ ?_ | (intro hc; cbv))
      all_goals first
        | (fail_if_success (refine Exists.intro ?_ ?_)
           clear hz
           subst hA
           simp [-List.getD_eq_getElem?_getD, std_add, std_sub, std_mul, std_quo, std_rem, std_band, std_bor, std_bxor, std_shl, std_shr, std_eq, std_ne, std_lt, std_le, std_conv, std_not, std_beq, std_bne, std_ite, std_want, std_and2, std_sadd, std_seq, std_sne, std_slt, std_sle, std_sgt, std_sge, std_slen, std_sget, std_scut, std_ofNat, std_toNat, std_nsub, std_nadd, std_lenOf, std_nz, std_nneg, std_inb, std_upto, std_slt63, std_grow, std_imp, std_impN, std_tr, std_tb, std_ti, std_ts, std_tn, std_tp, std_nmin, std_makes, std_room, std_zeros, std_nilq, std_notq, std_eqi, std_eqn, std_eqb, std_eqs, std_eqv, std_cat, std_lst, std_rset, std_rcopy, std_shift, std_eqr, std_strOf, std_bytesOf, std_isB, std_zOf, zOf_int, std_isI, isI_int, std_getL, std_nmul, std_sOf, sOf_str, std_isS, isS_str, std_fadd, std_fsub, std_fav, std_fsv, std_feq, std_fne, std_flt, std_fle, std_fgt, std_fge, std_fOf, std_fTo, std_fTv, h1, h2] at *
           first
             | done
             | exact ⟨(show (0 : Int) ≤ ((i : Nat) : Int) by omega), (show ((i : Nat) : Int) < ((M.length : Nat) : Int) by omega)⟩
             | omega
             | (apply hne; intro h; subst h; simp at hc; done)
             | (intro hLM; refine hne ?_ hLM; intro h; subst h; simp at hc; done)
             | trace_state)
        | (obtain ⟨i', hi'⟩ : ∃ i', i' = i + 1 := ⟨_, rfl⟩
           have hk : e = g := by
             clear hz hne
             subst hA
             simp [-List.getD_eq_getElem?_getD, std_add, std_sub, std_mul, std_quo, std_rem, std_band, std_bor, std_bxor, std_shl, std_shr, std_eq, std_ne, std_lt, std_le, std_conv, std_not, std_beq, std_bne, std_ite, std_want, std_and2, std_sadd, std_seq, std_sne, std_slt, std_sle, std_sgt, std_sge, std_slen, std_sget, std_scut, std_ofNat, std_toNat, std_nsub, std_nadd, std_lenOf, std_nz, std_nneg, std_inb, std_upto, std_slt63, std_grow, std_imp, std_impN, std_tr, std_tb, std_ti, std_ts, std_tn, std_tp, std_nmin, std_makes, std_room, std_zeros, std_nilq, std_notq, std_eqi, std_eqn, std_eqb, std_eqs, std_eqv, std_cat, std_lst, std_rset, std_rcopy, std_shift, std_eqr, std_strOf, std_bytesOf, std_isB, std_zOf, zOf_int, std_isI, isI_int, std_getL, std_nmul, std_sOf, sOf_str, std_isS, isS_str, std_fadd, std_fsub, std_fav, std_fsv, std_feq, std_fne, std_flt, std_fle, std_fgt, std_fge, std_fOf, std_fTo, std_fTv, h1, h2] at hc
             exact Hld_ext hc.1 hc.2.1 hc.2.2.1 hc.2.2.2
           refine ⟨⟨i', by omega, ?_⟩, ?_, show L.length - i' < L.length - i by omega⟩
           · rw [hi', ← take_snoc (d := H0) hlt, ← take_snoc (d := H0) (show i < M.length by omega), hz, ← he, ← hgg, hk]
           · cbv
             subst hA
             simp [-List.getD_eq_getElem?_getD, std_add, std_sub, std_mul, std_quo, std_rem, std_band, std_bor, std_bxor, std_shl, std_shr, std_eq, std_ne, std_lt, std_le, std_conv, std_not, std_beq, std_bne, std_ite, std_want, std_and2, std_sadd, std_seq, std_sne, std_slt, std_sle, std_sgt, std_sge, std_slen, std_sget, std_scut, std_ofNat, std_toNat, std_nsub, std_nadd, std_lenOf, std_nz, std_nneg, std_inb, std_upto, std_slt63, std_grow, std_imp, std_impN, std_tr, std_tb, std_ti, std_ts, std_tn, std_tp, std_nmin, std_makes, std_room, std_zeros, std_nilq, std_notq, std_eqi, std_eqn, std_eqb, std_eqs, std_eqv, std_cat, std_lst, std_rset, std_rcopy, std_shift, std_eqr, std_strOf, std_bytesOf, std_isB, std_zOf, zOf_int, std_isI, isI_int, std_getL, std_nmul, std_sOf, sOf_str, std_isS, isS_str, std_fadd, std_fsub, std_fav, std_fsv, std_feq, std_fne, std_flt, std_fle, std_fgt, std_fge, std_fOf, std_fTo, std_fTv]
             exact w_succ' hi' (by omega))
        | trace_state
    · have hie : i = L.length := by omega
      rw [hie, List.take_length, hl, List.take_length] at hz
      cbv
      repeat' (first | with_reducible exact True.intro | with_reducible exact dr_ok hA (by kernel_rfl) | with_reducible refine And.intro ?_ ?_ | (intro hc; cbv))
      all_goals first
        | (exfalso; clear hz; subst hA; simp [-List.getD_eq_getElem?_getD, std_add, std_sub, std_mul, std_quo, std_rem, std_band, std_bor, std_bxor, std_shl, std_shr, std_eq, std_ne, std_lt, std_le, std_conv, std_not, std_beq, std_bne, std_ite, std_want, std_and2, std_sadd, std_seq, std_sne, std_slt, std_sle, std_sgt, std_sge, std_slen, std_sget, std_scut, std_ofNat, std_toNat, std_nsub, std_nadd, std_lenOf, std_nz, std_nneg, std_inb, std_upto, std_slt63, std_grow, std_imp, std_impN, std_tr, std_tb, std_ti, std_ts, std_tn, std_tp, std_nmin, std_makes, std_room, std_zeros, std_nilq, std_notq, std_eqi, std_eqn, std_eqb, std_eqs, std_eqv, std_cat, std_lst, std_rset, std_rcopy, std_shift, std_eqr, std_strOf, std_bytesOf, std_isB, std_zOf, zOf_int, std_isI, isI_int, std_getL, std_nmul, std_sOf, sOf_str, std_isS, isS_str, std_fadd, std_fsub, std_fav, std_fsv, std_feq, std_fne, std_flt, std_fle, std_fgt, std_fge, std_fOf, std_fTo, std_fTv] at hc; omega)
        | (exfalso; clear hz; subst hA; rename_i q; simp [-List.getD_eq_getElem?_getD, std_add, std_sub, std_mul, std_quo, std_rem, std_band, std_bor, std_bxor, std_shl, std_shr, std_eq, std_ne, std_lt, std_le, std_conv, std_not, std_beq, std_bne, std_ite, std_want, std_and2, std_sadd, std_seq, std_sne, std_slt, std_sle, std_sgt, std_sge, std_slen, std_sget, std_scut, std_ofNat, std_toNat, std_nsub, std_nadd, std_lenOf, std_nz, std_nneg, std_inb, std_upto, std_slt63, std_grow, std_imp, std_impN, std_tr, std_tb, std_ti, std_ts, std_tn, std_tp, std_nmin, std_makes, std_room, std_zeros, std_nilq, std_notq, std_eqi, std_eqn, std_eqb, std_eqs, std_eqv, std_cat, std_lst, std_rset, std_rcopy, std_shift, std_eqr, std_strOf, std_bytesOf, std_isB, std_zOf, zOf_int, std_isI, isI_int, std_getL, std_nmul, std_sOf, sOf_str, std_isS, isS_str, std_fadd, std_fsub, std_fav, std_fsv, std_feq, std_fne, std_flt, std_fle, std_fgt, std_fge, std_fOf, std_fTo, std_fTv] at q; omega)
        | (subst hA
           simp [-List.getD_eq_getElem?_getD, std_add, std_sub, std_mul, std_quo, std_rem, std_band, std_bor, std_bxor, std_shl, std_shr, std_eq, std_ne, std_lt, std_le, std_conv, std_not, std_beq, std_bne, std_ite, std_want, std_and2, std_sadd, std_seq, std_sne, std_slt, std_sle, std_sgt, std_sge, std_slen, std_sget, std_scut, std_ofNat, std_toNat, std_nsub, std_nadd, std_lenOf, std_nz, std_nneg, std_inb, std_upto, std_slt63, std_grow, std_imp, std_impN, std_tr, std_tb, std_ti, std_ts, std_tn, std_tp, std_nmin, std_makes, std_room, std_zeros, std_nilq, std_notq, std_eqi, std_eqn, std_eqb, std_eqs, std_eqv, std_cat, std_lst, std_rset, std_rcopy, std_shift, std_eqr, std_strOf, std_bytesOf, std_isB, std_zOf, zOf_int, std_isI, isI_int, std_getL, std_nmul, std_sOf, sOf_str, std_isS, isS_str, std_fadd, std_fsub, std_fav, std_fsv, std_feq, std_fne, std_flt, std_fle, std_fgt, std_fge, std_fOf, std_fTo, std_fTv, hz] at *)
        | trace_state
noncomputable def c_lSame : Ct := fun A args => match args with
  | [.agg [.slc n 4 f], .agg [.slc m 4 g]] => some (some (A.tp fun _ => (isRow eH H0 4 n f ∧ isRow eH H0 4 m g) ∧ n ≤ 1000000), .bool (A.tb fun _ => decide (lstOf eH H0 4 n f = lstOf eH H0 4 m g)))
  | _ => none
noncomputable def gyS : Ar → Pu := addC 66 c_lSame (gy7)
theorem gyS_ok : PuOk Tryd.prog gl0 (gyS std) := by
  refine addC_ok (gy7_ok) ⟨_, Tryd.func66, rfl, by decide⟩ ?_
  · intro args p r h hp
    unfold c_lSame at h
    split at h <;> cases h
    exact good_sv (good_lSame _ _ (by rw [lstOf_length hp.1.1]; exact hp.2)) ⟨⟨_, rfl, hp.1.1.sv, trivial⟩, ⟨_, rfl, hp.1.2.sv, trivial⟩, trivial⟩
end Go.Vd

set_option linter.unusedVariables false
set_option linter.unusedSimpArgs false
set_option maxRecDepth 100000
set_option maxHeartbeats 8000000
namespace Go.Vd
open Go.Proofs
noncomputable def c_lShort9 : Ct := fun A args => match args with
  | [.agg [.slc n 4 f]] => some (some (A.tp fun _ => isRow eH H0 4 n f ∧ n ≤ 9223372036854775807), .bool (A.tb fun _ => shL (lstOf eH H0 4 n f)))
  | _ => none
noncomputable def c_lSame9 : Ct := fun A args => match args with
  | [.agg [.slc n 4 f], .agg [.slc m 4 g]] => some (some (A.tp fun _ => (isRow eH H0 4 n f ∧ isRow eH H0 4 m g) ∧ n ≤ 1000000), .bool (A.tb fun _ => decide (lstOf eH H0 4 n f = lstOf eH H0 4 m g)))
  | _ => none
noncomputable def c_leAwake : Ct := fun A args => match args with
  | [] => some (none, .bool true)
  | _ => none
noncomputable def gy9 : Ar → Pu := addC 58 c_lShort9 (addC 66 c_lSame9 (addC 57 c_leAwake (gy8)))
theorem gy9_ok : PuOk Tryd.prog gl0 (gy9 std) := by
  refine addC_ok (addC_ok (addC_ok (gy8_ok) ⟨_, Tryd.func57, rfl, by decide⟩ ?_) ⟨_, Tryd.func66, rfl, by decide⟩ ?_) ⟨_, Tryd.func58, rfl, by decide⟩ ?_
  · intro args p r h hp
    unfold c_leAwake at h
    split at h <;> cases h
    exact good_leAwake
  · intro args p r h hp
    unfold c_lSame9 at h
    split at h <;> cases h
    exact good_sv (good_lSame _ _ (by rw [lstOf_length hp.1.1]; exact hp.2)) ⟨⟨_, rfl, hp.1.1.sv, trivial⟩, ⟨_, rfl, hp.1.2.sv, trivial⟩, trivial⟩
  · intro args p r h hp
    unfold c_lShort9 at h
    split at h <;> cases h
    exact good_sv (good_lShort _ (by rw [lstOf_length hp.1]; exact hp.2)) ⟨⟨_, rfl, hp.1.sv, trivial⟩, trivial⟩
theorem lgL_len (L : List Hld) (k a s : Int) (p r c : List UInt8) (ok : Bool) : (lgL L k a s p r c ok).length ≤ L.length + 1 := by
  have h1 : ∀ e, (opnH L e).length ≤ L.length + 1 := fun e => by
    unfold opnH
    split
    · omega
    · rw [insH_len]; omega
  unfold lgL doL
  split
  · split
    · split
      · omega
      · exact h1 _
    · split
      · split
        · rw [gvH_len]; omega
        · exact h1 _
      · omega
  · omega
theorem shL_len {L : List Hld} (h : shL L = true) : L.length ≤ 300 := (shL_iff.1 h).1
attribute [local irreducible] vc
theorem good_LedgerTwice (L : List Hld) (k a s : Int) (p r c : List UInt8) (o1 o2 : Bool) (hL : L.length ≤ 9223372036854775807) : GoodP Tryd.prog gl0 14 [sL std fun _ => L, .agg [.int .i64 k, .str p, .int .u64 a, .int .u32 s, .str r, .str c], .bool o1, .bool o2] (.bool true) := by
  refine fn_sound' (T := seatT) (G := gy9) (X := noX) seatT_ok gy9_ok noX_ok noI_ok mixed Tryd.func14 (.one) (fun A => [sL A fun _ => L, .agg [.int .i64 k, .str p, .int .u64 a, .int .u32 s, .str r, .str c], .bool o1, .bool o2]) (fun A => .bool true) fun A hA => ?_
  cbv
  repeat' (first | with_reducible exact True.intro | with_reducible exact dr_ok hA (by kernel_rfl) | with_reducible refine And.intro ?_ ?_ | (intro hc; cbv))
  all_goals (subst hA; try simp only [std_add, std_sub, std_mul, std_quo, std_rem, std_band, std_bor, std_bxor, std_shl, std_shr, std_eq, std_ne, std_lt, std_le, std_conv, std_not, std_beq, std_bne, std_ite, std_want, std_and2, std_sadd, std_seq, std_sne, std_slt, std_sle, std_sgt, std_sge, std_slen, std_sget, std_scut, std_ofNat, std_toNat, std_nsub, std_nadd, std_lenOf, std_nz, std_nneg, std_inb, std_upto, std_slt63, std_grow, std_imp, std_impN, std_tr, std_tb, std_ti, std_ts, std_tn, std_tp, std_nmin, std_makes, std_room, std_zeros, std_nilq, std_notq, std_eqi, std_eqn, std_eqb, std_eqs, std_eqv, std_cat, std_lst, std_rset, std_rcopy, std_shift, std_eqr, std_strOf, std_bytesOf, std_isB, std_zOf, zOf_int, std_isI, isI_int, std_getL, std_nmul, std_sOf, sOf_str, std_isS, isS_str, std_fadd, std_fsub, std_fav, std_fsv, std_feq, std_fne, std_flt, std_fle, std_fgt, std_fge, std_fOf, std_fTo, std_fTv, lstOf_V, isRow_V] at *)
  all_goals first
    | exact ⟨trivial, hL⟩
    | (exfalso; revert hc; decide)
    | exact id
    | (intro h; rw [h]; rfl)
    | (intro h; exact ⟨h, h⟩)
    | (intro h; exact ⟨h, trivial, hL⟩)
    | skip
  all_goals first
    | (have hv : shL L = true ∧ p.length ≤ 300 ∧ r.length ≤ 300 ∧ c.length ≤ 300 := by
         have h : (bif !shL L then true else !decide (p.length ≤ 300 ∧ r.length ≤ 300 ∧ c.length ≤ 300)) = false := by assumption
         cases hs : shL L <;> rw [hs] at h
         · cases h
         · exact ⟨rfl, by simpa using h⟩
       have hl := shL_len hv.1
       have hl2 := lgL_len L k a s p r c o1
       have hl3 := lgL_len (lgL L k a s p r c o1) k a s p r c o2
       obtain ⟨f1, f2, f3⟩ := le_twice L k a s p r c o1 o2
       first
         | exact ⟨⟨trivial, by omega⟩, by omega, by omega, by omega⟩
         | (intro h; exact ⟨h, ⟨trivial, trivial⟩, by omega⟩)
         | exact ⟨⟨trivial, trivial⟩, by omega⟩
         | (by_cases hE : lgE L k a s p r c = 0
            · have f4 := f3 hE
              simp [f1, f2, f4, hE]
              try omega
            · simp [f1, f2, hE]
              try omega)
         | trace_state)
    | trace_state
end Go.Vd

set_option linter.unusedVariables false
set_option linter.unusedSimpArgs false
set_option maxRecDepth 100000
set_option maxHeartbeats 8000000
namespace Go.Vd
theorem fnd_self {L : List Hld} (hr : leR L = true) {n : Nat} (hn : n < L.length) : fnd L (L.getD n H0).s (L.getD n H0).r = L.getD n H0 ∧ has L (L.getD n H0).s (L.getD n H0).r = true := by
  have hasc := (ascB_iff L).1 (leR_asc hr).1
  refine fnd_yes hn (fun j hj => ?_) (kE_iff.2 ⟨rfl, rfl⟩)
  refine kE_no fun h => ?_
  have h1 := asc_mono hasc hj hn
  unfold ordH at h1
  rw [h.1, h.2, ordK_eq, if_pos ⟨rfl, rfl⟩] at h1
  exact absurd h1 (by decide)
def OnP (L M : List Hld) (k a s : Int) (r C : List UInt8) : Prop := leR M = true ∧
    (has L s r = true → has M s r = true ∧ (fnd M s r).am = (fnd L s r).am ∧ ((fnd M s r).st = (fnd L s r).st ∨ (fnd M s r).st = 3)) ∧
    (has L s r = false → has M s r = true → (fnd M s r).am = a) ∧
    (k = 1 → C = [48, 48] → (fnd M s r).st = 1 ∧ (fnd M s r).am = a) ∧
    (¬k = 1 → C = [48, 48] → (fnd M s r).st = 3) ∧
    ∀ n, n < L.length → has M (L.getD n H0).s (L.getD n H0).r = true ∧ (((L.getD n H0).s = s ∧ (L.getD n H0).r = r) ∨ fnd M (L.getD n H0).s (L.getD n H0).r = L.getD n H0)
section
variable {L : List Hld} {k a s : Int} {p r c : List UInt8} {ok : Bool}
theorem lgE_0 (hE : lgE L k a s p r c = 0) : leR L = true ∧ dR k a s p r c = true ∧ (k = 1 ∨ k = 5 ∨ k = 6) ∧ lgL L k a s p r c ok = doL L k a s r ok := by
  unfold lgE at hE
  split at hE
  · rename_i ho
    split at hE
    · rename_i hk
      have h2 : leR L = true ∧ dR k a s p r c = true := by simpa [lgOk] using ho
      exact ⟨h2.1, h2.2, hk, if_pos ho⟩
    · cases hE
  · cases hE
theorem lgE_no (hE : ¬lgE L k a s p r c = 0) : lgL L k a s p r c ok = L := by
  unfold lgE at hE
  unfold lgL
  split at hE
  · rename_i ho
    rw [if_pos ho]
    split at hE
    · exact absurd rfl hE
    · rename_i hk
      unfold doL
      rw [if_neg (by omega), if_neg (by omega)]
  · rename_i ho
    rw [if_neg ho]
theorem code_rr : ∀ {C : List UInt8}, C = [48, 48] ∨ C = [48, 53] ∨ C = [57, 52] ∨ C = [57, 54] → rr 39 C = true := by
  intro C h
  rcases h with rfl | rfl | rfl | rfl <;> decide
theorem agC_code (m t : Int) : agC m t a = [48, 48] ∨ agC m t a = [48, 53] ∨ agC m t a = [57, 52] ∨ agC m t a = [57, 54] := by
  unfold agC
  split
  · exact .inr (.inl rfl)
  · split
    · exact .inr (.inr (.inl rfl))
    · exact .inl rfl
theorem opnC_code {x : List UInt8} (h : x = [48, 48] ∨ x = [48, 53]) : opnC L x = [48, 48] ∨ opnC L x = [48, 53] ∨ opnC L x = [57, 52] ∨ opnC L x = [57, 54] := by
  unfold opnC
  split
  · exact .inr (.inr (.inr rfl))
  · rcases h with h | h
    · exact .inl h
    · exact .inr (.inl h)
theorem doC_code (hk : k = 1 ∨ k = 5 ∨ k = 6) : doC L k a s r ok = [48, 48] ∨ doC L k a s r ok = [48, 53] ∨ doC L k a s r ok = [57, 52] ∨ doC L k a s r ok = [57, 54] := by
  unfold doC
  by_cases h1 : k = 1
  · rw [if_pos h1]
    split
    · exact agC_code _ _
    · exact opnC_code (by cases ok; exact .inr rfl; exact .inl rfl)
  · rw [if_neg h1, if_pos (by omega)]
    split
    · exact .inl rfl
    · exact opnC_code (.inl rfl)
theorem on_dR (hE : lgE L k a s p r c = 0) : dR (if k = 1 then 2 else 7) 0 s [] r (doC L k a s r ok) = true := by
  obtain ⟨_, hd, hk, _⟩ := lgE_0 (ok := ok) hE
  have hC := code_rr (doC_code (L := L) (a := a) (s := s) (r := r) (ok := ok) hk)
  unfold dR at hd ⊢
  simp only [Bool.and_eq_true, decide_eq_true_eq] at hd
  obtain ⟨_, h2, h3, _⟩ := hd
  have hA : dAsks (if k = 1 then 2 else 7) = false := by split <;> decide
  have hK : (1 : Int) ≤ (if k = 1 then 2 else 7) ∧ (if k = 1 then 2 else 7) ≤ (7 : Int) := by split <;> decide
  rw [decide_eq_true hK, decide_eq_true h2, h3, hA, hC]
  rfl
theorem on_all (hE : lgE L k a s p r c = 0) : OnP L (lgL L k a s p r c ok) k a s r (doC L k a s r ok) := by
  obtain ⟨hr, hd, hk, hM⟩ := lgE_0 (ok := ok) hE
  rw [hM]
  have hs : ∀ n, n < L.length → has L (L.getD n H0).s (L.getD n H0).r = true ∧ (((L.getD n H0).s = s ∧ (L.getD n H0).r = r) ∨ fnd L (L.getD n H0).s (L.getD n H0).r = L.getD n H0) := fun n hn => ⟨(fnd_self hr hn).2, .inr (fnd_self hr hn).1⟩
  cases hh : has L s r
  · by_cases hl : 256 ≤ L.length
    · have e1 : doL L k a s r ok = L := by unfold doL; rw [hh]; simp [opnH, hl]
      have e2 : doC L k a s r ok = [57, 54] := by
        unfold doC opnC
        rw [hh]
        by_cases h1 : k = 1
        · simp [h1, hl]
        · rw [if_neg h1, if_pos (by omega)]; simp [hl]
      rw [e1, e2]
      exact ⟨hr, fun h => (by rw [hh] at h; cases h), fun _ h => (by rw [hh] at h; cases h), fun _ h => absurd h (by decide), fun _ h => absurd h (by decide), hs⟩
    · have hins := fun (st : Int) (h1 : 1 ≤ st) (h2 : st ≤ 3) => insH_mid hr (e := ⟨s, r, a, st⟩) (hR_of hd h1 h2) hh hl
      have hgen : ∀ st : Int, 1 ≤ st → st ≤ 3 → doL L k a s r ok = insH L ⟨s, r, a, st⟩ → (k = 1 → doC L k a s r ok = [48, 48] → st = 1) → (¬k = 1 → st = 3) → OnP L (doL L k a s r ok) k a s r (doC L k a s r ok) := fun st h1 h2 e1 e2 e3 => by
        have h3 := hins st h1 h2
        simp only at h3
        obtain ⟨q1, q2, q3, q4, q5, q6⟩ := h3
        rw [e1]
        refine ⟨q1, fun h => (by rw [hh] at h; cases h), fun _ _ => by rw [q3], fun g1 g2 => ⟨by rw [q3]; exact e2 g1 g2, by rw [q3]⟩, fun g1 _ => by rw [q3]; exact e3 g1, fun n hn => ?_⟩
        have hne : ¬(s = (L.getD n H0).s ∧ r = (L.getD n H0).r) := fun h => by
          have := has_no hh (getD_mem hn)
          rw [kE_iff.2 ⟨h.1.symm, h.2.symm⟩] at this
          cases this
        obtain ⟨f1, f2⟩ := q6 _ _ hne
        rw [f1, f2]
        exact hs n hn
      by_cases h1 : k = 1
      · have e1 : doL L k a s r ok = insH L ⟨s, r, a, if ok = true then 1 else 2⟩ := by unfold doL opnH; rw [hh, if_pos h1, if_neg hl]; rfl
        refine hgen (if ok = true then 1 else 2) (by cases ok <;> decide) (by cases ok <;> decide) e1 (fun _ h => ?_) (fun h => absurd h1 h)
        unfold doC opnC at h
        rw [hh, if_pos h1, if_neg hl] at h
        cases ok
        · simp at h
        · rfl
      · have e1 : doL L k a s r ok = insH L ⟨s, r, a, 3⟩ := by unfold doL opnH; rw [hh, if_neg h1, if_pos (by omega), if_neg hl]; rfl
        exact hgen 3 (by decide) (by decide) e1 (fun h => absurd h h1) (fun _ => rfl)
  · have hg := gvH_mid hr hh
    obtain ⟨q1, q2, q3, q4, _, _, _, _, q6⟩ := hg
    by_cases h1 : k = 1
    · have e1 : doL L k a s r ok = L := by unfold doL; rw [if_pos h1, if_pos hh]
      have e2 : doC L k a s r ok = agC (L.getD (pos L s r) H0).am (L.getD (pos L s r) H0).st a := by unfold doC; rw [if_pos h1, if_pos hh]
      rw [e1, e2]
      refine ⟨hr, fun _ => ⟨hh, rfl, .inl rfl⟩, fun h => (by rw [hh] at h; cases h), fun _ h => ?_, fun h => absurd h1 h, hs⟩
      rw [q4]
      unfold agC at h
      split at h
      · exact absurd h (by decide)
      · split at h
        · exact absurd h (by decide)
        · constructor <;> omega
    · have e1 : doL L k a s r ok = gvH L (pos L s r) := by unfold doL; rw [if_neg h1, if_pos (by omega), if_pos hh]
      rw [e1]
      refine ⟨q1, fun _ => ⟨q2, by rw [q3]; rfl, .inr (by rw [q3]; rfl)⟩, fun h => (by rw [hh] at h; cases h), fun h => absurd h h1, fun _ _ => by rw [q3]; rfl, fun n hn => ?_⟩
      by_cases hk2 : (L.getD n H0).s = s ∧ (L.getD n H0).r = r
      · refine ⟨?_, .inl hk2⟩
        rw [hk2.1, hk2.2]
        exact q2
      · obtain ⟨f1, f2⟩ := q6 (L.getD n H0).s (L.getD n H0).r fun h => hk2 ⟨h.1.symm, h.2.symm⟩
        rw [f1, f2]
        exact hs n hn
end
end Go.Vd

set_option linter.unusedVariables false
set_option linter.unusedSimpArgs false
set_option maxRecDepth 100000
set_option maxHeartbeats 8000000
namespace Go.Vd
open Go.Proofs
structure Dl where
  k : Int
  pan : List UInt8
  am : Int
  s : Int
  r : List UInt8
  code : List UInt8
  deriving DecidableEq
def D0 : Dl := ⟨0, [], 0, 0, [], []⟩
def eD : En Dl := fun A x => [.int .i64 (A.ti fun _ => (x ()).k), .str (A.ts fun _ => (x ()).pan), .int .u64 (A.ti fun _ => (x ()).am), .int .u32 (A.ti fun _ => (x ()).s), .str (A.ts fun _ => (x ()).r), .str (A.ts fun _ => (x ()).code)]
theorem inj_eD : Inj eD 6 := fun x y h => by
  obtain ⟨s0, a0, b0⟩ := h 0 (by omega)
  obtain ⟨s1, a1, b1⟩ := h 1 (by omega)
  obtain ⟨s2, a2, b2⟩ := h 2 (by omega)
  obtain ⟨s3, a3, b3⟩ := h 3 (by omega)
  obtain ⟨s4, a4, b4⟩ := h 4 (by omega)
  obtain ⟨s5, a5, b5⟩ := h 5 (by omega)
  have a0 : Ceq s0 (.int .i64 x.k) := a0
  have b0 : Ceq s0 (.int .i64 y.k) := b0
  have a1 : Ceq s1 (.str x.pan) := a1
  have b1 : Ceq s1 (.str y.pan) := b1
  have a2 : Ceq s2 (.int .u64 x.am) := a2
  have b2 : Ceq s2 (.int .u64 y.am) := b2
  have a3 : Ceq s3 (.int .u32 x.s) := a3
  have b3 : Ceq s3 (.int .u32 y.s) := b3
  have a4 : Ceq s4 (.str x.r) := a4
  have b4 : Ceq s4 (.str y.r) := b4
  have a5 : Ceq s5 (.str x.code) := a5
  have b5 : Ceq s5 (.str y.code) := b5
  rw [Ceq.int] at a0 b0 a2 b2 a3 b3
  rw [Ceq.str] at a1 b1 a4 b4 a5 b5
  subst a0 a1 a2 a3 a4 a5
  cases x
  cases y
  simp at b0 b1 b2 b3 b4 b5
  simp only [Dl.mk.injEq]
  exact ⟨b0, b1, b2, b3, b4, b5⟩
theorem cell_eD (d : Dl) : ∀ j, j < 6 → Ceq (getAt [SV.int .i64 d.k, SV.str d.pan, SV.int .u64 d.am, SV.int .u32 d.s, SV.str d.r, SV.str d.code] j) (getAt (eD std fun _ => d) j) := by
  intro j hj
  rcases (show j = 0 ∨ j = 1 ∨ j = 2 ∨ j = 3 ∨ j = 4 ∨ j = 5 by omega) with rfl | rfl | rfl | rfl | rfl | rfl <;> exact .refl _
def eO : En Bool := fun A b => [.bool (A.tb fun _ => b ())]
end Go.Vd

set_option linter.unusedVariables false
set_option linter.unusedSimpArgs false
set_option maxRecDepth 100000
set_option maxHeartbeats 8000000
namespace Go.Vd
open Go.Proofs
theorem lo_ok {a b c d : Bool} (h : (bif bif bif !a then true else b then true else c then true else !d) = false) : a = true ∧ b = false ∧ c = false ∧ d = true := by
  cases a <;> cases b <;> cases c <;> cases d <;> simp at h ⊢
attribute [local irreducible] vc
theorem good_LedgerOnce (L : List Hld) (Ds : List Dl) (Bs : List Bool) (hL : L.length ≤ 9223372036854775807) (hD : Ds.length ≤ 9223372036854775807) (hB : Bs.length ≤ 9223372036854775807) : GoodP Tryd.prog gl0 13 [sL std fun _ => L, rowS eD D0 6 std fun _ => Ds, rowS eO false 1 std fun _ => Bs] (.bool true) := by
  refine fn_sound' (T := seatT) (G := gy9) (X := noX) seatT_ok gy9_ok noX_ok noI_ok mixed Tryd.func13 (.one) (fun A => [sL A fun _ => L, rowS eD D0 6 A fun _ => Ds, rowS eO false 1 A fun _ => Bs]) (fun A => .bool true) fun A hA => ?_
  cbv
  repeat' (first | with_reducible exact True.intro | with_reducible exact dr_ok hA (by kernel_rfl) | with_reducible refine And.intro ?_ ?_ | (intro hc; cbv))
  all_goals first
    | (fail_if_success (refine Exists.intro ?_ ?_)
       subst hA
       simp only [std_add, std_sub, std_mul, std_quo, std_rem, std_band, std_bor, std_bxor, std_shl, std_shr, std_eq, std_ne, std_lt, std_le, std_conv, std_not, std_beq, std_bne, std_ite, std_want, std_and2, std_sadd, std_seq, std_sne, std_slt, std_sle, std_sgt, std_sge, std_slen, std_sget, std_scut, std_ofNat, std_toNat, std_nsub, std_nadd, std_lenOf, std_nz, std_nneg, std_inb, std_upto, std_slt63, std_grow, std_imp, std_impN, std_tr, std_tb, std_ti, std_ts, std_tn, std_tp, std_nmin, std_makes, std_room, std_zeros, std_nilq, std_notq, std_eqi, std_eqn, std_eqb, std_eqs, std_eqv, std_cat, std_lst, std_rset, std_rcopy, std_shift, std_eqr, std_strOf, std_bytesOf, std_isB, std_zOf, zOf_int, std_isI, isI_int, std_getL, std_nmul, std_sOf, sOf_str, std_isS, isS_str, std_fadd, std_fsub, std_fav, std_fsv, std_feq, std_fne, std_flt, std_fle, std_fgt, std_fge, std_fOf, std_fTo, std_fTv, lstOf_V, isRow_V] at *
       first
         | done
         | exact ⟨trivial, hL⟩
         | (exfalso; revert hc; decide)
         | exact id
         | (intro h; rw [h]; rfl)
         | (intro h; exact ⟨h, h⟩)
         | (intro h; exact ⟨h, trivial, hL⟩)
         | (intro h
            have h2 : shL L = true := by cases hs : shL L <;> simp [hs] at h ⊢
            have h3 := shL_len h2
            exact ⟨h, trivial, by omega⟩)
         | trace_state)
    | skip
  have h0 : shL L = true ∧ Ds.length ≤ 60 ∧ Ds.length ≤ Bs.length ∧ leR L = true := by
    subst hA
    simp only [std_add, std_sub, std_mul, std_quo, std_rem, std_band, std_bor, std_bxor, std_shl, std_shr, std_eq, std_ne, std_lt, std_le, std_conv, std_not, std_beq, std_bne, std_ite, std_want, std_and2, std_sadd, std_seq, std_sne, std_slt, std_sle, std_sgt, std_sge, std_slen, std_sget, std_scut, std_ofNat, std_toNat, std_nsub, std_nadd, std_lenOf, std_nz, std_nneg, std_inb, std_upto, std_slt63, std_grow, std_imp, std_impN, std_tr, std_tb, std_ti, std_ts, std_tn, std_tp, std_nmin, std_makes, std_room, std_zeros, std_nilq, std_notq, std_eqi, std_eqn, std_eqb, std_eqs, std_eqv, std_cat, std_lst, std_rset, std_rcopy, std_shift, std_eqr, std_strOf, std_bytesOf, std_isB, std_zOf, zOf_int, std_isI, isI_int, std_getL, std_nmul, std_sOf, sOf_str, std_isS, isS_str, std_fadd, std_fsub, std_fav, std_fsv, std_feq, std_fne, std_flt, std_fle, std_fgt, std_fge, std_fOf, std_fTo, std_fTv, lstOf_V, isRow_V] at hc
    obtain ⟨h1, h2, h3, h4⟩ := lo_ok hc
    have h2 := of_decide_eq_false h2
    have h3 := of_decide_eq_false h3
    exact ⟨h1, by omega, by omega, h4⟩
  obtain ⟨_, hD2, hB2, hR0⟩ := h0
  clear hc
  refine ⟨⟨{x : Nat × List Hld // x.1 ≤ Ds.length ∧ leR x.2 = true}, fun b x => [(7, .int .i64 (x.1.1 : Nat))], fun b x => [(0, .box 88 [rowS eH H0 4 A fun _ => x.1.2])], fun x => Ds.length - x.1.1, .past 8⟩, ⟨⟨(0, L), Nat.zero_le _, hR0⟩, ?_⟩, ?_⟩
  · cbv
    subst hA
    simp [-List.getD_eq_getElem?_getD, std_add, std_sub, std_mul, std_quo, std_rem, std_band, std_bor, std_bxor, std_shl, std_shr, std_eq, std_ne, std_lt, std_le, std_conv, std_not, std_beq, std_bne, std_ite, std_want, std_and2, std_sadd, std_seq, std_sne, std_slt, std_sle, std_sgt, std_sge, std_slen, std_sget, std_scut, std_ofNat, std_toNat, std_nsub, std_nadd, std_lenOf, std_nz, std_nneg, std_inb, std_upto, std_slt63, std_grow, std_imp, std_impN, std_tr, std_tb, std_ti, std_ts, std_tn, std_tp, std_nmin, std_makes, std_room, std_zeros, std_nilq, std_notq, std_eqi, std_eqn, std_eqb, std_eqs, std_eqv, std_cat, std_lst, std_rset, std_rcopy, std_shift, std_eqr, std_strOf, std_bytesOf, std_isB, std_zOf, zOf_int, std_isI, isI_int, std_getL, std_nmul, std_sOf, sOf_str, std_isS, isS_str, std_fadd, std_fsub, std_fav, std_fsv, std_feq, std_fne, std_flt, std_fle, std_fgt, std_fge, std_fOf, std_fTo, std_fTv]
    try exact (Reps.lit _).eqr
  · intro x
    obtain ⟨⟨i, M⟩, hx⟩ := x
    have hi := hx.1
    have hR := hx.2
    simp only at hi hR
    have hMl := leR_len hR
    obtain ⟨d, hd⟩ : ∃ d, d = Ds.getD i D0 := ⟨_, rfl⟩
    obtain ⟨ok, hok⟩ : ∃ ok, ok = Bs.getD i false := ⟨_, rfl⟩
    have hd2 : Ds.getD i { k := 0, pan := [], am := 0, s := 0, r := [], code := [] } = d := hd.symm
    have hok2 : Bs.getD i false = ok := hok.symm
    have hno := @lgE_no M d.k d.am d.s d.pan d.r d.code ok
    have hall := @on_all M d.k d.am d.s d.pan d.r d.code ok
    have hdr := @on_dR M d.k d.am d.s d.pan d.r d.code ok
    have hln := lgL_len M d.k d.am d.s d.pan d.r d.code ok
    obtain ⟨N, hN⟩ : ∃ N, N = lgL M d.k d.am d.s d.pan d.r d.code ok := ⟨_, rfl⟩
    obtain ⟨C, hC⟩ : ∃ C, C = doC M d.k d.am d.s d.r ok := ⟨_, rfl⟩
    have hN2 : lgL M d.k d.am d.s d.pan d.r d.code ok = N := hN.symm
    have hC2 : doC M d.k d.am d.s d.r ok = C := hC.symm
    rw [hN2] at hno hall hln
    rw [hC2] at hall hdr
    have hcl : lgE M d.k d.am d.s d.pan d.r d.code = 0 → C.length ≤ 1000000 := fun hE => by
      have h3 := (lgE_0 (ok := ok) hE).2.2.1
      have h4 := @doC_code M d.k d.am d.s d.r ok h3
      rw [hC2] at h4
      rcases h4 with h4 | h4 | h4 | h4 <;> rw [h4] <;> decide
    clear hd hok hN hC
    cbv
    repeat' (first | with_reducible exact True.intro | with_reducible exact dr_ok hA (by kernel_rfl) | with_reducible refine And.intro ?_ ?_ | (intro hc; cbv))
    all_goals first
      | (fail_if_success (refine Exists.intro ?_ ?_)
         subst hA
         simp only [std_add, std_sub, std_mul, std_quo, std_rem, std_band, std_bor, std_bxor, std_shl, std_shr, std_eq, std_ne, std_lt, std_le, std_conv, std_not, std_beq, std_bne, std_ite, std_want, std_and2, std_sadd, std_seq, std_sne, std_slt, std_sle, std_sgt, std_sge, std_slen, std_sget, std_scut, std_ofNat, std_toNat, std_nsub, std_nadd, std_lenOf, std_nz, std_nneg, std_inb, std_upto, std_slt63, std_grow, std_imp, std_impN, std_tr, std_tb, std_ti, std_ts, std_tn, std_tp, std_nmin, std_makes, std_room, std_zeros, std_nilq, std_notq, std_eqi, std_eqn, std_eqb, std_eqs, std_eqv, std_cat, std_lst, std_rset, std_rcopy, std_shift, std_eqr, std_strOf, std_bytesOf, std_isB, std_zOf, zOf_int, std_isI, isI_int, std_getL, std_nmul, std_sOf, sOf_str, std_isS, isS_str, std_fadd, std_fsub, std_fav, std_fsv, std_feq, std_fne, std_flt, std_fle, std_fgt, std_fge, std_fOf, std_fTo, std_fTv, Int.ofNat_eq_natCast, Int.toNat_natCast, lstOf_V, isRow_V, hd2, hok2, hN2, hC2] at *
         first
           | done
           | exact ⟨trivial, by omega⟩
           | exact ⟨⟨trivial, trivial⟩, by omega⟩
           | (have h : decide ((i : Int) < ((Ds.length : Nat) : Int)) = true := by assumption
              have h := of_decide_eq_true h
              first
                | exact ⟨(show (0 : Int) ≤ ((i : Nat) : Int) by omega), (show ((i : Nat) : Int) < ((Ds.length : Nat) : Int) by omega)⟩
                | exact ⟨(show (0 : Int) ≤ ((i : Nat) : Int) by omega), (show ((i : Nat) : Int) < ((Bs.length : Nat) : Int) by omega)⟩)
           | (have h : (!decide (d.pan.length ≤ 300 ∧ d.r.length ≤ 300 ∧ d.code.length ≤ 300)) = false := by assumption
              simp at h
              exact ⟨⟨trivial, by omega⟩, by omega, by omega, by omega⟩)
           | (intro h; exact ⟨h, h⟩)
           | (intro h; rw [h]; rfl)
           | (have hE0 : (lgE M d.k d.am d.s d.pan d.r d.code != 0) = true := by assumption
              have hE : ¬lgE M d.k d.am d.s d.pan d.r d.code = 0 := by simpa using hE0
              have h1 := hno hE
              exfalso
              simp [h1, hE] at hc
              done)
           | (have hE0 : (lgE M d.k d.am d.s d.pan d.r d.code != 0) = false := by assumption
              have hE : lgE M d.k d.am d.s d.pan d.r d.code = 0 := by simpa using hE0
              obtain ⟨o1, o2, o3, o4, o5, o6⟩ := hall hE
              have hdr2 := hdr hE
              have hsh : (!decide (d.pan.length ≤ 300 ∧ d.r.length ≤ 300 ∧ d.code.length ≤ 300)) = false := by assumption
              simp at hsh
              have hCl := hcl hE
              have hrl : d.r.length ≤ 1000000 := by omega
              clear hno hall hdr hcl
              first
                | (exfalso
                   cases h1 : has M d.s d.r
                   · cases h2 : has N d.s d.r
                     · simp [hE, o1, hdr2, h1, h2] at hc
                       done
                     · have h3 := o3 h1 h2
                       simp [hE, o1, hdr2, h1, h2, h3] at hc
                       done
                   · obtain ⟨a1, a2, a3⟩ := o2 h1
                     rcases a3 with a3 | a3
                     · simp [hE, o1, hdr2, h1, a1, a2, a3] at hc
                       done
                     · simp [hE, o1, hdr2, h1, a1, a2, a3] at hc
                       done)
                | (exfalso
                   simp only [hE, if_true] at hc
                   by_cases hk : d.k = 1
                   · by_cases hC3 : C = [48, 48]
                     · obtain ⟨a1, a2⟩ := o4 hk hC3
                       simp [hk, hC3, a1, a2] at hc
                       done
                     · simp [hk, hC3] at hc
                       done
                   · by_cases hC3 : C = [48, 48]
                     · have a1 := o5 hk hC3
                       simp [hk, hC3, a1] at hc
                       done
                     · simp [hk, hC3] at hc
                       done)
                | (clear hc; simp [hE, o1, hdr2]; done)
                | (clear hc; simp [hE, o1, hdr2, hCl, hrl]; done)
                | (clear hc; intro h; simp [hE, o1, hdr2] at h ⊢; simp [h]; done)
                | (clear hc; intro h; simp [hE, o1, hdr2] at h ⊢; (try simp [h]); omega)
                | (clear hc; simp only [hE, if_true, o1, hdr2]; intro h; simp at h ⊢; simp_all; done)
                | trace_state)
           | trace_state)
      | (have hlt : i < Ds.length := by
           clear hno hall hdr hcl
           subst hA
           simp only [std_add, std_sub, std_mul, std_quo, std_rem, std_band, std_bor, std_bxor, std_shl, std_shr, std_eq, std_ne, std_lt, std_le, std_conv, std_not, std_beq, std_bne, std_ite, std_want, std_and2, std_sadd, std_seq, std_sne, std_slt, std_sle, std_sgt, std_sge, std_slen, std_sget, std_scut, std_ofNat, std_toNat, std_nsub, std_nadd, std_lenOf, std_nz, std_nneg, std_inb, std_upto, std_slt63, std_grow, std_imp, std_impN, std_tr, std_tb, std_ti, std_ts, std_tn, std_tp, std_nmin, std_makes, std_room, std_zeros, std_nilq, std_notq, std_eqi, std_eqn, std_eqb, std_eqs, std_eqv, std_cat, std_lst, std_rset, std_rcopy, std_shift, std_eqr, std_strOf, std_bytesOf, std_isB, std_zOf, zOf_int, std_isI, isI_int, std_getL, std_nmul, std_sOf, sOf_str, std_isS, isS_str, std_fadd, std_fsub, std_fav, std_fsv, std_feq, std_fne, std_flt, std_fle, std_fgt, std_fge, std_fOf, std_fTo, std_fTv, Int.ofNat_eq_natCast, Int.toNat_natCast, lstOf_V, isRow_V, hd2, hok2, hN2, hC2] at *
           have h : decide ((i : Int) < ((Ds.length : Nat) : Int)) = true := by assumption
           have h := of_decide_eq_true h
           omega
         obtain ⟨i', hi'⟩ : ∃ i', i' = i + 1 := ⟨_, rfl⟩
         have hw := w_succ' hi' (by omega)
         have hi'' : i' ≤ Ds.length := by omega
         refine ⟨⟨(i', M), hi'', hR⟩, ?_, show Ds.length - i' < Ds.length - i by omega⟩
         cbv
         subst hA
         simp [-List.getD_eq_getElem?_getD, std_add, std_sub, std_mul, std_quo, std_rem, std_band, std_bor, std_bxor, std_shl, std_shr, std_eq, std_ne, std_lt, std_le, std_conv, std_not, std_beq, std_bne, std_ite, std_want, std_and2, std_sadd, std_seq, std_sne, std_slt, std_sle, std_sgt, std_sge, std_slen, std_sget, std_scut, std_ofNat, std_toNat, std_nsub, std_nadd, std_lenOf, std_nz, std_nneg, std_inb, std_upto, std_slt63, std_grow, std_imp, std_impN, std_tr, std_tb, std_ti, std_ts, std_tn, std_tp, std_nmin, std_makes, std_room, std_zeros, std_nilq, std_notq, std_eqi, std_eqn, std_eqb, std_eqs, std_eqv, std_cat, std_lst, std_rset, std_rcopy, std_shift, std_eqr, std_strOf, std_bytesOf, std_isB, std_zOf, zOf_int, std_isI, isI_int, std_getL, std_nmul, std_sOf, sOf_str, std_isS, isS_str, std_fadd, std_fsub, std_fav, std_fsv, std_feq, std_fne, std_flt, std_fle, std_fgt, std_fge, std_fOf, std_fTo, std_fTv]
         first | exact hw | trace_state)
      | skip
    have hy : i < Ds.length ∧ lgE M d.k d.am d.s d.pan d.r d.code = 0 := by
      clear hno hall hdr hcl
      subst hA
      simp only [std_add, std_sub, std_mul, std_quo, std_rem, std_band, std_bor, std_bxor, std_shl, std_shr, std_eq, std_ne, std_lt, std_le, std_conv, std_not, std_beq, std_bne, std_ite, std_want, std_and2, std_sadd, std_seq, std_sne, std_slt, std_sle, std_sgt, std_sge, std_slen, std_sget, std_scut, std_ofNat, std_toNat, std_nsub, std_nadd, std_lenOf, std_nz, std_nneg, std_inb, std_upto, std_slt63, std_grow, std_imp, std_impN, std_tr, std_tb, std_ti, std_ts, std_tn, std_tp, std_nmin, std_makes, std_room, std_zeros, std_nilq, std_notq, std_eqi, std_eqn, std_eqb, std_eqs, std_eqv, std_cat, std_lst, std_rset, std_rcopy, std_shift, std_eqr, std_strOf, std_bytesOf, std_isB, std_zOf, zOf_int, std_isI, isI_int, std_getL, std_nmul, std_sOf, sOf_str, std_isS, isS_str, std_fadd, std_fsub, std_fav, std_fsv, std_feq, std_fne, std_flt, std_fle, std_fgt, std_fge, std_fOf, std_fTo, std_fTv, Int.ofNat_eq_natCast, Int.toNat_natCast, lstOf_V, isRow_V, hd2, hok2, hN2, hC2] at *
      refine ⟨?_, ?_⟩
      · have h : decide ((i : Int) < ((Ds.length : Nat) : Int)) = true := by assumption
        have h := of_decide_eq_true h
        omega
      · have h : (lgE M d.k d.am d.s d.pan d.r d.code != 0) = false := by assumption
        simpa using h
    obtain ⟨hil, hE⟩ := hy
    obtain ⟨o1, _, _, _, _, o6⟩ := hall hE
    have hNl := leR_len o1
    clear hno hall hdr hcl
    refine ⟨⟨{n : Nat // n ≤ M.length}, fun b n => [(16, .int .i64 (n.1 : Nat))], fun b n => [], fun n => M.length - n.1, .past 17⟩, ⟨⟨0, Nat.zero_le _⟩, ?_⟩, ?_⟩
    · cbv
      subst hA
      simp [-List.getD_eq_getElem?_getD, std_add, std_sub, std_mul, std_quo, std_rem, std_band, std_bor, std_bxor, std_shl, std_shr, std_eq, std_ne, std_lt, std_le, std_conv, std_not, std_beq, std_bne, std_ite, std_want, std_and2, std_sadd, std_seq, std_sne, std_slt, std_sle, std_sgt, std_sge, std_slen, std_sget, std_scut, std_ofNat, std_toNat, std_nsub, std_nadd, std_lenOf, std_nz, std_nneg, std_inb, std_upto, std_slt63, std_grow, std_imp, std_impN, std_tr, std_tb, std_ti, std_ts, std_tn, std_tp, std_nmin, std_makes, std_room, std_zeros, std_nilq, std_notq, std_eqi, std_eqn, std_eqb, std_eqs, std_eqv, std_cat, std_lst, std_rset, std_rcopy, std_shift, std_eqr, std_strOf, std_bytesOf, std_isB, std_zOf, zOf_int, std_isI, isI_int, std_getL, std_nmul, std_sOf, sOf_str, std_isS, isS_str, std_fadd, std_fsub, std_fav, std_fsv, std_feq, std_fne, std_flt, std_fle, std_fgt, std_fge, std_fOf, std_fTo, std_fTv]
    · intro y
      obtain ⟨n, hn⟩ := y
      obtain ⟨e, he⟩ : ∃ e, e = M.getD n H0 := ⟨_, rfl⟩
      have hg : M.getD n { s := 0, r := [], am := 0, st := 0 } = e := he.symm
      have h6 := o6 n
      rw [← he] at h6
      clear o6
      cbv
      repeat' (first | with_reducible exact True.intro | with_reducible exact dr_ok hA (by kernel_rfl) | with_reducible refine And.intro ?_ ?_ | (intro hc; cbv))
      all_goals first
        | (fail_if_success (refine Exists.intro ?_ ?_)
           subst hA
           simp only [std_add, std_sub, std_mul, std_quo, std_rem, std_band, std_bor, std_bxor, std_shl, std_shr, std_eq, std_ne, std_lt, std_le, std_conv, std_not, std_beq, std_bne, std_ite, std_want, std_and2, std_sadd, std_seq, std_sne, std_slt, std_sle, std_sgt, std_sge, std_slen, std_sget, std_scut, std_ofNat, std_toNat, std_nsub, std_nadd, std_lenOf, std_nz, std_nneg, std_inb, std_upto, std_slt63, std_grow, std_imp, std_impN, std_tr, std_tb, std_ti, std_ts, std_tn, std_tp, std_nmin, std_makes, std_room, std_zeros, std_nilq, std_notq, std_eqi, std_eqn, std_eqb, std_eqs, std_eqv, std_cat, std_lst, std_rset, std_rcopy, std_shift, std_eqr, std_strOf, std_bytesOf, std_isB, std_zOf, zOf_int, std_isI, isI_int, std_getL, std_nmul, std_sOf, sOf_str, std_isS, isS_str, std_fadd, std_fsub, std_fav, std_fsv, std_feq, std_fne, std_flt, std_fle, std_fgt, std_fge, std_fOf, std_fTo, std_fTv, Int.ofNat_eq_natCast, Int.toNat_natCast, lstOf_V, isRow_V, hd2, hok2, hN2, hC2, hg] at *
           first
             | done
             | exact ⟨trivial, by omega⟩
             | (have h : decide ((n : Int) < ((M.length : Nat) : Int)) = true := by assumption
                have hlt := of_decide_eq_true h
                obtain ⟨q1, q2⟩ := h6 (by omega)
                first
                  | exact ⟨(show (0 : Int) ≤ ((n : Nat) : Int) by omega), (show ((n : Nat) : Int) < ((M.length : Nat) : Int) by omega)⟩
                  | (intro h; exact ⟨h, (show (0 : Int) ≤ ((n : Nat) : Int) by omega), (show ((n : Nat) : Int) < ((M.length : Nat) : Int) by omega)⟩)
                  | (intro h; exact ⟨⟨h, h⟩, (show (0 : Int) ≤ ((n : Nat) : Int) by omega), (show ((n : Nat) : Int) < ((M.length : Nat) : Int) by omega)⟩)
                  | (intro h; exact ⟨h, h⟩)
                  | (intro h; exact ⟨h, fun _ => h⟩)
                  | (intro h; exact h)
                  | (intro h; rw [h]; rfl)
                  | (exfalso
                     simp only [q1, Bool.not_true, cond_false] at hc
                     rcases q2 with ⟨z1, z2⟩ | z
                     · simp [z1, z2] at hc
                       done
                     · simp [z] at hc
                       done)
                  | (simp [q1]; done)
                  | (intro h; simp [q1] at h ⊢; simp [h]; done)
                  | trace_state)
             | trace_state)
        | (have hlt : n < M.length := by
             clear h6
             subst hA
             simp only [std_add, std_sub, std_mul, std_quo, std_rem, std_band, std_bor, std_bxor, std_shl, std_shr, std_eq, std_ne, std_lt, std_le, std_conv, std_not, std_beq, std_bne, std_ite, std_want, std_and2, std_sadd, std_seq, std_sne, std_slt, std_sle, std_sgt, std_sge, std_slen, std_sget, std_scut, std_ofNat, std_toNat, std_nsub, std_nadd, std_lenOf, std_nz, std_nneg, std_inb, std_upto, std_slt63, std_grow, std_imp, std_impN, std_tr, std_tb, std_ti, std_ts, std_tn, std_tp, std_nmin, std_makes, std_room, std_zeros, std_nilq, std_notq, std_eqi, std_eqn, std_eqb, std_eqs, std_eqv, std_cat, std_lst, std_rset, std_rcopy, std_shift, std_eqr, std_strOf, std_bytesOf, std_isB, std_zOf, zOf_int, std_isI, isI_int, std_getL, std_nmul, std_sOf, sOf_str, std_isS, isS_str, std_fadd, std_fsub, std_fav, std_fsv, std_feq, std_fne, std_flt, std_fle, std_fgt, std_fge, std_fOf, std_fTo, std_fTv, Int.ofNat_eq_natCast, Int.toNat_natCast, lstOf_V, isRow_V, hd2, hok2, hN2, hC2] at *
             have h : decide ((n : Int) < ((M.length : Nat) : Int)) = true := by assumption
             have h := of_decide_eq_true h
             omega
           obtain ⟨n', hn'⟩ : ∃ n', n' = n + 1 := ⟨_, rfl⟩
           have hw := w_succ' hn' (by omega)
           have hn'' : n' ≤ M.length := by omega
           refine ⟨⟨n', hn''⟩, ?_, show M.length - n' < M.length - n by omega⟩
           cbv
           subst hA
           simp [-List.getD_eq_getElem?_getD, std_add, std_sub, std_mul, std_quo, std_rem, std_band, std_bor, std_bxor, std_shl, std_shr, std_eq, std_ne, std_lt, std_le, std_conv, std_not, std_beq, std_bne, std_ite, std_want, std_and2, std_sadd, std_seq, std_sne, std_slt, std_sle, std_sgt, std_sge, std_slen, std_sget, std_scut, std_ofNat, std_toNat, std_nsub, std_nadd, std_lenOf, std_nz, std_nneg, std_inb, std_upto, std_slt63, std_grow, std_imp, std_impN, std_tr, std_tb, std_ti, std_ts, std_tn, std_tp, std_nmin, std_makes, std_room, std_zeros, std_nilq, std_notq, std_eqi, std_eqn, std_eqb, std_eqs, std_eqv, std_cat, std_lst, std_rset, std_rcopy, std_shift, std_eqr, std_strOf, std_bytesOf, std_isB, std_zOf, zOf_int, std_isI, isI_int, std_getL, std_nmul, std_sOf, sOf_str, std_isS, isS_str, std_fadd, std_fsub, std_fav, std_fsv, std_feq, std_fne, std_flt, std_fle, std_fgt, std_fge, std_fOf, std_fTo, std_fTv]
           first | exact hw | trace_state)
        | (obtain ⟨i', hi'⟩ : ∃ i', i' = i + 1 := ⟨_, rfl⟩
           have hw := w_succ' hi' (by omega)
           have hi'' : i' ≤ Ds.length := by omega
           refine ⟨⟨(i', N), hi'', o1⟩, ?_, show Ds.length - i' < Ds.length - i by omega⟩
           clear h6
           cbv
           subst hA
           simp only [std_add, std_sub, std_mul, std_quo, std_rem, std_band, std_bor, std_bxor, std_shl, std_shr, std_eq, std_ne, std_lt, std_le, std_conv, std_not, std_beq, std_bne, std_ite, std_want, std_and2, std_sadd, std_seq, std_sne, std_slt, std_sle, std_sgt, std_sge, std_slen, std_sget, std_scut, std_ofNat, std_toNat, std_nsub, std_nadd, std_lenOf, std_nz, std_nneg, std_inb, std_upto, std_slt63, std_grow, std_imp, std_impN, std_tr, std_tb, std_ti, std_ts, std_tn, std_tp, std_nmin, std_makes, std_room, std_zeros, std_nilq, std_notq, std_eqi, std_eqn, std_eqb, std_eqs, std_eqv, std_cat, std_lst, std_rset, std_rcopy, std_shift, std_eqr, std_strOf, std_bytesOf, std_isB, std_zOf, zOf_int, std_isI, isI_int, std_getL, std_nmul, std_sOf, sOf_str, std_isS, isS_str, std_fadd, std_fsub, std_fav, std_fsv, std_feq, std_fne, std_flt, std_fle, std_fgt, std_fge, std_fOf, std_fTo, std_fTv, Int.ofNat_eq_natCast, Int.toNat_natCast, lstOf_V, isRow_V, hd2, hok2, hN2, hC2] at *
           repeat' (first | exact True.intro | exact (Reps.lit _).eqr | exact hw | refine And.intro ?_ ?_))
        | trace_state
end Go.Vd

set_option linter.unusedVariables false
namespace Go.Vd
open Go.Proofs Go.ChangeShapes Go.WideShapes Go.ChangeAt Go.RowKit Go.Joins Go.Deep Go.WideElems
theorem u16_wf {z : Int} (h : (Lit.int .u16 z).wf = true) : 0 ≤ z ∧ z < 65536 := by
  simp [Lit.wf] at h
  have e1 : IntKind.u16.min = 0 := by decide
  have e2 : IntKind.u16.max = 65535 := by decide
  rw [e1, e2] at h
  exact ⟨h.1, by omega⟩
section
variable {H : Type} {enc : TypeId × Value → H} {P : Program}
theorem open_eB_trod {W : World} {t e : TypeId} {v : Value} {fuel : Nat} {x : DataW H × List MemPlace} (ht : P.underlying t = some (.slice e)) (he : P.underlying e = some (.int .u8)) (hc : P.cellsOf e = 1)
    (h : DataW.trod enc P W 0 (fun _ => true) true fuel t [v] = some x) : ∃ L : List UInt8, L.length ≤ maxLen ∧ one v ∧ RelC W (fun _ => False) v (rowS eB 0 1 std fun _ => L) := by
  rcases open_ints ht he hc h with ⟨hcs, hx⟩ | ⟨a, len, cap, zs, hcs, _, hl, hm, hz, hx, hcell, hwz⟩
  · simp only [List.cons.injEq, and_true] at hcs
    subst hcs
    exact ⟨[], Nat.zero_le _, rfl, .slc none 0 0 1 _ (fun _ _ => undef) (Nat.le_refl _) (fun i j hi => absurd hi (by omega)) (fun h => absurd h (by omega)) (fun i j hi => absurd hi (by omega))⟩
  · simp only [List.cons.injEq, and_true] at hcs
    subst hcs
    simp only [if_true] at hz
    have hlen : ((zs.take len).map fun n => UInt8.ofNat n.toNat).length = len := by simp; omega
    refine ⟨(zs.take len).map fun n => UInt8.ofNat n.toNat, by rw [hlen]; omega, rfl, ?_⟩
    show RelC W (fun _ => False) _ (.slc ((zs.take len).map fun n => UInt8.ofNat n.toNat).length 1 (rowF eB 0 std fun _ => (zs.take len).map fun n => UInt8.ofNat n.toNat))
    rw [hlen]
    refine .slc (some a) len cap 1 _ (fun i _ => .int .u8 (zs.getD i 0)) hl (fun i j hi hj => ⟨a, rfl, ?_, rfl, fun h => h⟩) (fun h => ⟨a, rfl, ?_⟩) (fun i j hi hj => ?_)
    · rw [show i * 1 + j = i by omega]
      exact hcell i (by omega)
    · simpa [Addr.add] using World.cell?_spot (hcell 0 (by omega))
    · obtain rfl : j = 0 := by omega
      have hw := u8_wf (hwz (zs.getD i 0) (by rw [List.getD_eq_getElem?_getD, List.getElem?_eq_getElem (by omega)]; simp))
      have : (zs.getD i 0) = (((zs.take len).map fun n => UInt8.ofNat n.toNat).getD i 0).toNat := by
        rw [List.getD_eq_getElem?_getD, List.getD_eq_getElem?_getD, List.getElem?_map, List.getElem?_take_of_lt hi]
        rw [List.getD_eq_getElem?_getD] at hw
        rw [List.getElem?_eq_getElem (by omega)] at hw ⊢
        simp at hw ⊢
        omega
      show RelC W _ _ (SV.int .u8 _)
      rw [this]
      exact .int _ _
theorem array6 {α : Type} {cs : Array α} (h : cs.size = 6) : ∃ c0 c1 c2 c3 c4 c5, cs = #[c0, c1, c2, c3, c4, c5] := by
  obtain ⟨l⟩ := cs
  match l, h with
  | [c0, c1, c2, c3, c4, c5], _ => exact ⟨c0, c1, c2, c3, c4, c5, rfl⟩
theorem open_agg6 {W : World} {b0 base : Nat} {spare : Nat → Bool} {held : Bool} {r : Reach} {t : TypeId} {f0 f1 f2 f3 f4 f5 : Field} {v : Value} {d : DataW H} {p : List MemPlace} (hs : P.underlying t = some (.struct #[f0, f1, f2, f3, f4, f5])) (hone : oneCellFields P #[f0, f1, f2, f3, f4, f5] = true) (hC : P.cellsOf t = 6)
    (hv : Value.okWide P W r b0 t v) (h : DataW.Trod enc P W base spare held t v d p) :
    ∃ (v0 v1 v2 v3 v4 v5 : Value) (y0 y1 y2 y3 y4 y5 : DataW H × List MemPlace) (n : Nat), v = .agg #[v0, v1, v2, v3, v4, v5] ∧ d = .agg [y0.1, y1.1, y2.1, y3.1, y4.1, y5.1] ∧ p = y0.2 ++ (y1.2 ++ (y2.2 ++ (y3.2 ++ (y4.2 ++ y5.2)))) ∧
      DataW.trod enc P W base spare held n f0.type [v0] = some y0 ∧ DataW.trod enc P W base spare held n f1.type [v1] = some y1 ∧ DataW.trod enc P W base spare held n f2.type [v2] = some y2 ∧ DataW.trod enc P W base spare held n f3.type [v3] = some y3 ∧ DataW.trod enc P W base spare held n f4.type [v4] = some y4 ∧ DataW.trod enc P W base spare held n f5.type [v5] = some y5 := by
  obtain ⟨cs, rfl, hsz⟩ := okWide_struct hs hv
  obtain ⟨c0, c1, c2, c3, c4, c5, rfl⟩ := array6 (hsz.trans hC)
  obtain ⟨fuel, hf⟩ := h
  obtain ⟨xs, n, _, hx, hl, hlen, hf⟩ := DataW.trod_struct hs hf
  match xs, hlen with
  | [y0, y1, y2, y3, y4, y5], _ =>
    obtain ⟨o0, k0⟩ := hone_of hone 0 f0 rfl
    have h0 := hf 0 f0 rfl
    obtain ⟨o1, k1⟩ := hone_of hone 1 f1 rfl
    have h1 := hf 1 f1 rfl
    obtain ⟨o2, k2⟩ := hone_of hone 2 f2 rfl
    have h2 := hf 2 f2 rfl
    obtain ⟨o3, k3⟩ := hone_of hone 3 f3 rfl
    have h3 := hf 3 f3 rfl
    obtain ⟨o4, k4⟩ := hone_of hone 4 f4 rfl
    have h4 := hf 4 f4 rfl
    obtain ⟨o5, k5⟩ := hone_of hone 5 f5 rfl
    have h5 := hf 5 f5 rfl
    simp only [Prod.mk.injEq] at hx
    exact ⟨c0, c1, c2, c3, c4, c5, y0, y1, y2, y3, y4, y5, n, rfl, by simpa using hx.1, by simpa using hx.2, by simpa [Value.cells, o0, k0] using h0, by simpa [Value.cells, o1, k1] using h1, by simpa [Value.cells, o2, k2] using h2, by simpa [Value.cells, o3, k3] using h3, by simpa [Value.cells, o4, k4] using h4, by simpa [Value.cells, o5, k5] using h5⟩
theorem rel_agg6 {w : World} {ρ : Nat → Value} {rw N : Nat → Prop} {u0 u1 u2 u3 u4 u5 : Value} {s0 s1 s2 s3 s4 s5 : SV} (h0 : one u0) (h1 : one u1) (h2 : one u2) (h3 : one u3) (h4 : one u4) (h5 : one u5)
    (r0 : Rel w ρ rw N u0 s0) (r1 : Rel w ρ rw N u1 s1) (r2 : Rel w ρ rw N u2 s2) (r3 : Rel w ρ rw N u3 s3) (r4 : Rel w ρ rw N u4 s4) (r5 : Rel w ρ rw N u5 s5) : Rel w ρ rw N (.agg #[u0, u1, u2, u3, u4, u5]) (.agg [s0, s1, s2, s3, s4, s5]) := by
  refine .agg _ _ rfl ?_ ?_
  · intro v hv
    simp at hv
    rcases hv with rfl | rfl | rfl | rfl | rfl | rfl <;> assumption
  · intro i v s hv hs
    match i with
    | 0 => simp at hv hs; subst hv hs; exact r0
    | 1 => simp at hv hs; subst hv hs; exact r1
    | 2 => simp at hv hs; subst hv hs; exact r2
    | 3 => simp at hv hs; subst hv hs; exact r3
    | 4 => simp at hv hs; subst hv hs; exact r4
    | 5 => simp at hv hs; subst hv hs; exact r5
    | n + 6 => simp at hv
theorem u32_wf {z : Int} (h : (Lit.int .u32 z).wf = true) : 0 ≤ z ∧ z < 4294967296 := by
  simp [Lit.wf] at h
  have e1 : IntKind.u32.min = 0 := by decide
  have e2 : IntKind.u32.max = 4294967295 := by decide
  rw [e1, e2] at h
  exact ⟨h.1, by omega⟩
end
end Go.Vd

