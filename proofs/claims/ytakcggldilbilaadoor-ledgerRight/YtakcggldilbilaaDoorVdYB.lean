/- Ledgers: Sum. -/
import Derived.Test.YtakcggldilbilaaDoorVdFlt2
import Derived.Test.YtakcggldilbilaaDoorVdSeat
set_option linter.unusedVariables false
set_option linter.unusedSimpArgs false
set_option maxRecDepth 100000
set_option maxHeartbeats 8000000
namespace Go.Vd
open Go.Proofs Ieee
def fA (a b : Nat) : Nat := (double.add a b).getD 0
def sumW1 (p : Nat × Nat) (e : Hld) : Nat × Nat := if e.st = 1 then (fA p.1 (FloatKind.f64.nearest e.am), fA p.2 0) else if e.st = 3 then (fA p.1 0, fA p.2 (FloatKind.f64.nearest e.am)) else p
def sumW (L : List Hld) : Nat × Nat := L.foldl sumW1 (0, 0)
def tot (z : Int) : List Hld → Int
  | [] => 0
  | e :: L => (if e.st = z then e.am else 0) + tot z L
theorem tot_snoc (z : Int) : ∀ (L : List Hld) (e : Hld), tot z (L ++ [e]) = tot z L + (if e.st = z then e.am else 0)
  | [], e => by simp [tot]
  | x :: L, e => by simp only [List.cons_append, tot, tot_snoc z L e]; omega
theorem sumW_snoc (L : List Hld) (e : Hld) : sumW (L ++ [e]) = sumW1 (sumW L) e := by unfold sumW; rw [List.foldl_append]; rfl
theorem isZ_zero : isZ 0 0 := by
  have h := read_zero false
  have e : double.word false 0 = 0 := by decide
  rw [e] at h
  obtain ⟨k, hk⟩ : ∃ k : Nat, k = 1074 := ⟨_, rfl⟩
  exact ⟨false, k, by rw [h, Int.natAbs_zero, Nat.zero_mul, hk]; rfl, by omega, by omega⟩
def amOk (e : Hld) : Prop := 0 ≤ e.am ∧ e.am < 1000000000000
theorem fA_isZ {x y : Nat} {n m : Int} (hx : isZ x n) (hy : isZ y m) (hb : (n + m).natAbs < 9007199254740992) : (double.add x y).isSome = true ∧ isZ (fA x y) (n + m) := by
  obtain ⟨z, h1, h2⟩ := isZ_add hx hy hb
  unfold fA
  rw [h1]
  exact ⟨rfl, h2⟩
theorem hsum_isZ' : ∀ (n : Nat) (L : List Hld), L.length = n → n ≤ 1000 → (∀ e ∈ L, amOk e) →
    (isZ (sumW L).1 (tot 1 L) ∧ isZ (sumW L).2 (tot 3 L)) ∧ (0 ≤ tot 1 L ∧ tot 1 L ≤ 1000000000000 * n) ∧ (0 ≤ tot 3 L ∧ tot 3 L ≤ 1000000000000 * n)
  | 0, L, hn, _, _ => by
    obtain rfl : L = [] := List.length_eq_zero_iff.1 hn
    exact ⟨⟨isZ_zero, isZ_zero⟩, by simp [tot], by simp [tot]⟩
  | n + 1, L, hn, hb, ha => by
    obtain ⟨M, e, rfl⟩ : ∃ M e, L = M ++ [e] := ⟨L.dropLast, L.getLast (by intro h; rw [h] at hn; simp at hn), (List.dropLast_concat_getLast _).symm⟩
    have hM : M.length = n := by simp at hn; exact hn
    obtain ⟨⟨h1, h2⟩, ⟨h3, h4⟩, h5, h6⟩ := hsum_isZ' n M hM (by omega) fun x hx => ha x (List.mem_append_left _ hx)
    have he := ha e (by simp)
    unfold amOk at he
    rw [sumW_snoc, tot_snoc, tot_snoc]
    unfold sumW1
    by_cases q1 : e.st = 1
    · rw [if_pos q1, if_pos q1, if_neg (by omega)]
      refine ⟨⟨(fA_isZ h1 (isZ_fOf (by omega)) (by omega)).2, (fA_isZ h2 isZ_zero (by omega)).2⟩, by omega, by omega⟩
    · by_cases q3 : e.st = 3
      · rw [if_neg q1, if_pos q3, if_neg q1, if_pos q3]
        refine ⟨⟨(fA_isZ h1 isZ_zero (by omega)).2, (fA_isZ h2 (isZ_fOf (by omega)) (by omega)).2⟩, by omega, by omega⟩
      · rw [if_neg q1, if_neg q3, if_neg q1, if_neg q3]
        refine ⟨⟨by simpa using h1, by simpa using h2⟩, by omega, by omega⟩
theorem hsum_isZ {L : List Hld} (hb : L.length ≤ 1000) (ha : ∀ e ∈ L, amOk e) : (isZ (sumW L).1 (tot 1 L) ∧ isZ (sumW L).2 (tot 3 L)) ∧ (0 ≤ tot 1 L ∧ tot 1 L ≤ 1000000000000000) ∧ (0 ≤ tot 3 L ∧ tot 3 L ≤ 1000000000000000) := by
  obtain ⟨h1, h2, h3⟩ := hsum_isZ' L.length L rfl hb ha
  exact ⟨h1, ⟨h2.1, by omega⟩, h3.1, by omega⟩
def suW (L : List Hld) : Nat × Nat := if leR L = true then sumW L else (0, 0)
theorem leR_am {L : List Hld} (h : leR L = true) (hN : ∀ e ∈ L, 0 ≤ e.am) : ∀ e ∈ L, amOk e := by
  intro e he
  have h2 := (ascB_iff L).1 (by simp only [leR, Bool.and_eq_true] at h; exact h.2)
  obtain ⟨j, hj, rfl⟩ := List.getElem_of_mem he
  have h3 := (h2 j hj).1
  rw [List.getD_eq_getElem?_getD, List.getElem?_eq_getElem hj] at h3
  simp only [Option.getD_some, hR, Bool.and_eq_true, decide_eq_true_eq] at h3
  exact ⟨hN _ he, h3.2.1⟩
theorem leR_len {L : List Hld} (h : leR L = true) : L.length ≤ 256 := by
  simp only [leR, Bool.and_eq_true, decide_eq_true_eq] at h
  exact h.1
theorem suW_yes {L : List Hld} (h : leR L = true) : suW L = sumW L := if_pos h
theorem suW_no {L : List Hld} (h : leR L = false) : suW L = (0, 0) := by unfold suW; rw [h]; rfl
theorem sum_step {L : List Hld} {i a b : Nat} {e : Hld} (hi : i < L.length) (hb : L.length ≤ 256) (ha : ∀ e ∈ L, amOk e) (he : e = L.getD i H0) (hz : (a, b) = sumW (L.take i)) :
    ((double.add a (FloatKind.f64.nearest e.am)).isSome = true ∧ (double.add b 0).isSome = true) ∧ ((double.add a 0).isSome = true ∧ (double.add b (FloatKind.f64.nearest e.am)).isSome = true) ∧
      sumW (L.take (i + 1)) = sumW1 (a, b) e := by
  have hm : e ∈ L := by rw [he, List.getD_eq_getElem?_getD, List.getElem?_eq_getElem hi]; exact List.getElem_mem hi
  obtain ⟨⟨h1, h2⟩, h3, h4⟩ := hsum_isZ (L := L.take i) (by rw [List.length_take]; omega) fun x hx => ha x (List.mem_of_mem_take hx)
  rw [← hz] at h1 h2
  have hae := ha e hm
  unfold amOk at hae
  refine ⟨⟨(fA_isZ h1 (isZ_fOf (by omega)) (by omega)).1, (fA_isZ h2 isZ_zero (by omega)).1⟩, ⟨(fA_isZ h1 isZ_zero (by omega)).1, (fA_isZ h2 (isZ_fOf (by omega)) (by omega)).1⟩, ?_⟩
  rw [← take_snoc (d := H0) hi, sumW_snoc, ← hz, ← he]
attribute [local irreducible] vc
theorem good_lSum (L : List Hld) (hL : L.length ≤ 1000000) (hN : ∀ e ∈ L, 0 ≤ e.am) : GoodP Tryd.prog gl0 67 [sL std fun _ => L] (.cpx (std.tn fun _ => (suW L).1) (std.tn fun _ => (suW L).2)) := by
  refine fn_sound' (T := seatT) (G := gy6) (X := noX) seatT_ok gy6_ok noX_ok noI_ok mixed Tryd.func67 (.one) (fun A => [sL A fun _ => L]) (fun A => .cpx (A.tn fun _ => (suW L).1) (A.tn fun _ => (suW L).2)) fun A hA => ?_
  cbv
  repeat' (first | with_reducible exact True.intro | with_reducible exact dr_ok hA (by kernel_rfl) | with_reducible refine And.intro ?_ ?_ | (intro hc; cbv))
  all_goals first
    | (fail_if_success (refine Exists.intro ?_ ?_)
       clear hN
       subst hA
       simp only [std_add, std_sub, std_mul, std_quo, std_rem, std_band, std_bor, std_bxor, std_shl, std_shr, std_eq, std_ne, std_lt, std_le, std_conv, std_not, std_beq, std_bne, std_ite, std_want, std_and2, std_sadd, std_seq, std_sne, std_slt, std_sle, std_sgt, std_sge, std_slen, std_sget, std_scut, std_ofNat, std_toNat, std_nsub, std_nadd, std_lenOf, std_nz, std_nneg, std_inb, std_upto, std_slt63, std_grow, std_imp, std_impN, std_tr, std_tb, std_ti, std_ts, std_tn, std_tp, std_nmin, std_makes, std_room, std_zeros, std_nilq, std_notq, std_eqi, std_eqn, std_eqb, std_eqs, std_eqv, std_cat, std_lst, std_rset, std_rcopy, std_shift, std_eqr, std_strOf, std_bytesOf, std_isB, std_zOf, zOf_int, std_isI, isI_int, std_getL, std_nmul, std_sOf, sOf_str, std_isS, isS_str, std_fadd, std_fsub, std_fav, std_fsv, std_feq, std_fne, std_flt, std_fle, std_fgt, std_fge, std_fOf, std_fTo, std_fTv, lstOf_V, isRow_V] at *
       first
         | exact ⟨trivial, hL⟩
         | (have h1 : leR L = false := by assumption
            rw [suW_no h1]; done)
         | (have h1 : (!leR L) = true := by assumption
            simp at h1; rw [suW_no h1]; done)
         | trace_state)
    | skip
  all_goals
    have hlr : leR L = true := by
      clear hN
      subst hA
      simp only [std_add, std_sub, std_mul, std_quo, std_rem, std_band, std_bor, std_bxor, std_shl, std_shr, std_eq, std_ne, std_lt, std_le, std_conv, std_not, std_beq, std_bne, std_ite, std_want, std_and2, std_sadd, std_seq, std_sne, std_slt, std_sle, std_sgt, std_sge, std_slen, std_sget, std_scut, std_ofNat, std_toNat, std_nsub, std_nadd, std_lenOf, std_nz, std_nneg, std_inb, std_upto, std_slt63, std_grow, std_imp, std_impN, std_tr, std_tb, std_ti, std_ts, std_tn, std_tp, std_nmin, std_makes, std_room, std_zeros, std_nilq, std_notq, std_eqi, std_eqn, std_eqb, std_eqs, std_eqv, std_cat, std_lst, std_rset, std_rcopy, std_shift, std_eqr, std_strOf, std_bytesOf, std_isB, std_zOf, zOf_int, std_isI, isI_int, std_getL, std_nmul, std_sOf, sOf_str, std_isS, isS_str, std_fadd, std_fsub, std_fav, std_fsv, std_feq, std_fne, std_flt, std_fle, std_fgt, std_fge, std_fOf, std_fTo, std_fTv, lstOf_V, isRow_V] at *
      have h1 : (!leR L) = false := by assumption
      simpa using h1
    have ham := leR_am hlr hN
    have hb := leR_len hlr
    clear hN
    refine ⟨⟨{q : Nat × Nat × Nat // q.1 ≤ L.length ∧ (q.2.1, q.2.2) = sumW (L.take q.1)}, fun b q => [(3, .cpx q.1.2.1 q.1.2.2), (12, .int .i64 (q.1.1 : Nat))], fun b i => [], fun q => L.length - q.1.1, true⟩, ⟨⟨(0, 0, 0), by simp, rfl⟩, ?_⟩, ?_⟩
    · cbv
      subst hA
      simp [-List.getD_eq_getElem?_getD, std_add, std_sub, std_mul, std_quo, std_rem, std_band, std_bor, std_bxor, std_shl, std_shr, std_eq, std_ne, std_lt, std_le, std_conv, std_not, std_beq, std_bne, std_ite, std_want, std_and2, std_sadd, std_seq, std_sne, std_slt, std_sle, std_sgt, std_sge, std_slen, std_sget, std_scut, std_ofNat, std_toNat, std_nsub, std_nadd, std_lenOf, std_nz, std_nneg, std_inb, std_upto, std_slt63, std_grow, std_imp, std_impN, std_tr, std_tb, std_ti, std_ts, std_tn, std_tp, std_nmin, std_makes, std_room, std_zeros, std_nilq, std_notq, std_eqi, std_eqn, std_eqb, std_eqs, std_eqv, std_cat, std_lst, std_rset, std_rcopy, std_shift, std_eqr, std_strOf, std_bytesOf, std_isB, std_zOf, zOf_int, std_isI, isI_int, std_getL, std_nmul, std_sOf, sOf_str, std_isS, isS_str, std_fadd, std_fsub, std_fav, std_fsv, std_feq, std_fne, std_flt, std_fle, std_fgt, std_fge, std_fOf, std_fTo, std_fTv]
    · rintro ⟨⟨i, a, b⟩, hx⟩
      have hi := hx.1
      have hz := hx.2
      simp only at hi hz
      obtain ⟨e, he⟩ : ∃ e, e = L.getD i H0 := ⟨_, rfl⟩
      have hg : L.getD i { s := 0, r := [], am := 0, st := 0 } = e := he.symm
      rcases Nat.lt_or_ge i L.length with hlt | hge
      · have hst := sum_step hlt hb ham he hz
        clear ham hz
        obtain ⟨hv1, hv2, hnx⟩ := hst
        cbv
        repeat' (first | with_reducible exact True.intro | with_reducible exact dr_ok hA (by kernel_rfl) | with_reducible refine And.intro ?_ ?_ | (intro hc; cbv))
        all_goals first
          | (fail_if_success (refine Exists.intro ?_ ?_)
             subst hA
             simp [-List.getD_eq_getElem?_getD, std_add, std_sub, std_mul, std_quo, std_rem, std_band, std_bor, std_bxor, std_shl, std_shr, std_eq, std_ne, std_lt, std_le, std_conv, std_not, std_beq, std_bne, std_ite, std_want, std_and2, std_sadd, std_seq, std_sne, std_slt, std_sle, std_sgt, std_sge, std_slen, std_sget, std_scut, std_ofNat, std_toNat, std_nsub, std_nadd, std_lenOf, std_nz, std_nneg, std_inb, std_upto, std_slt63, std_grow, std_imp, std_impN, std_tr, std_tb, std_ti, std_ts, std_tn, std_tp, std_nmin, std_makes, std_room, std_zeros, std_nilq, std_notq, std_eqi, std_eqn, std_eqb, std_eqs, std_eqv, std_cat, std_lst, std_rset, std_rcopy, std_shift, std_eqr, std_strOf, std_bytesOf, std_isB, std_zOf, zOf_int, std_isI, isI_int, std_getL, std_nmul, std_sOf, sOf_str, std_isS, isS_str, std_fadd, std_fsub, std_fav, std_fsv, std_feq, std_fne, std_flt, std_fle, std_fgt, std_fge, std_fOf, std_fTo, std_fTv, hg] at *
             first
               | done
               | exact ⟨(show (0 : Int) ≤ ((i : Nat) : Int) by omega), (show ((i : Nat) : Int) < ((L.length : Nat) : Int) by omega)⟩
               | exact hv1.1
               | exact hv1.2
               | exact hv2.1
               | exact hv2.2
               | omega
               | trace_state)
          | (obtain ⟨i', hi'⟩ : ∃ i', i' = i + 1 := ⟨_, rfl⟩
             have hw := w_succ' hi' (by omega)
             have hk : e.st = 1 := by
               clear hnx hv1 hv2
               subst hA
               simp [-List.getD_eq_getElem?_getD, std_add, std_sub, std_mul, std_quo, std_rem, std_band, std_bor, std_bxor, std_shl, std_shr, std_eq, std_ne, std_lt, std_le, std_conv, std_not, std_beq, std_bne, std_ite, std_want, std_and2, std_sadd, std_seq, std_sne, std_slt, std_sle, std_sgt, std_sge, std_slen, std_sget, std_scut, std_ofNat, std_toNat, std_nsub, std_nadd, std_lenOf, std_nz, std_nneg, std_inb, std_upto, std_slt63, std_grow, std_imp, std_impN, std_tr, std_tb, std_ti, std_ts, std_tn, std_tp, std_nmin, std_makes, std_room, std_zeros, std_nilq, std_notq, std_eqi, std_eqn, std_eqb, std_eqs, std_eqv, std_cat, std_lst, std_rset, std_rcopy, std_shift, std_eqr, std_strOf, std_bytesOf, std_isB, std_zOf, zOf_int, std_isI, isI_int, std_getL, std_nmul, std_sOf, sOf_str, std_isS, isS_str, std_fadd, std_fsub, std_fav, std_fsv, std_feq, std_fne, std_flt, std_fle, std_fgt, std_fge, std_fOf, std_fTo, std_fTv, hg] at hc
               exact hc
             obtain ⟨a', ha'⟩ : ∃ x, x = fA a (FloatKind.f64.nearest e.am) := ⟨_, rfl⟩
             obtain ⟨b', hb'⟩ : ∃ x, x = fA b 0 := ⟨_, rfl⟩
             have hinv : (a', b') = sumW (L.take i') := by rw [hi', hnx]; unfold sumW1; rw [if_pos hk, ← ha', ← hb']
             have hi'' : i' ≤ L.length := by omega
             refine ⟨⟨(i', a', b'), hi'', hinv⟩, ?_, show L.length - i' < L.length - i by omega⟩
             clear hnx hv1 hv2
             unfold fA at ha' hb'
             cbv
             subst hA
             simp [-List.getD_eq_getElem?_getD, std_add, std_sub, std_mul, std_quo, std_rem, std_band, std_bor, std_bxor, std_shl, std_shr, std_eq, std_ne, std_lt, std_le, std_conv, std_not, std_beq, std_bne, std_ite, std_want, std_and2, std_sadd, std_seq, std_sne, std_slt, std_sle, std_sgt, std_sge, std_slen, std_sget, std_scut, std_ofNat, std_toNat, std_nsub, std_nadd, std_lenOf, std_nz, std_nneg, std_inb, std_upto, std_slt63, std_grow, std_imp, std_impN, std_tr, std_tb, std_ti, std_ts, std_tn, std_tp, std_nmin, std_makes, std_room, std_zeros, std_nilq, std_notq, std_eqi, std_eqn, std_eqb, std_eqs, std_eqv, std_cat, std_lst, std_rset, std_rcopy, std_shift, std_eqr, std_strOf, std_bytesOf, std_isB, std_zOf, zOf_int, std_isI, isI_int, std_getL, std_nmul, std_sOf, sOf_str, std_isS, isS_str, std_fadd, std_fsub, std_fav, std_fsv, std_feq, std_fne, std_flt, std_fle, std_fgt, std_fge, std_fOf, std_fTo, std_fTv, hg]
             first | exact ⟨⟨ha'.symm, hb'.symm⟩, hw⟩ | trace_state)
          | (obtain ⟨i', hi'⟩ : ∃ i', i' = i + 1 := ⟨_, rfl⟩
             have hw := w_succ' hi' (by omega)
             have hk : ¬e.st = 1 ∧ e.st = 3 := by
               clear hnx hv1 hv2
               subst hA
               simp [-List.getD_eq_getElem?_getD, std_add, std_sub, std_mul, std_quo, std_rem, std_band, std_bor, std_bxor, std_shl, std_shr, std_eq, std_ne, std_lt, std_le, std_conv, std_not, std_beq, std_bne, std_ite, std_want, std_and2, std_sadd, std_seq, std_sne, std_slt, std_sle, std_sgt, std_sge, std_slen, std_sget, std_scut, std_ofNat, std_toNat, std_nsub, std_nadd, std_lenOf, std_nz, std_nneg, std_inb, std_upto, std_slt63, std_grow, std_imp, std_impN, std_tr, std_tb, std_ti, std_ts, std_tn, std_tp, std_nmin, std_makes, std_room, std_zeros, std_nilq, std_notq, std_eqi, std_eqn, std_eqb, std_eqs, std_eqv, std_cat, std_lst, std_rset, std_rcopy, std_shift, std_eqr, std_strOf, std_bytesOf, std_isB, std_zOf, zOf_int, std_isI, isI_int, std_getL, std_nmul, std_sOf, sOf_str, std_isS, isS_str, std_fadd, std_fsub, std_fav, std_fsv, std_feq, std_fne, std_flt, std_fle, std_fgt, std_fge, std_fOf, std_fTo, std_fTv, hg] at *
               first | exact ⟨by assumption, by assumption⟩ | exact ⟨by omega, by assumption⟩
             obtain ⟨a', ha'⟩ : ∃ x, x = fA a 0 := ⟨_, rfl⟩
             obtain ⟨b', hb'⟩ : ∃ x, x = fA b (FloatKind.f64.nearest e.am) := ⟨_, rfl⟩
             have hinv : (a', b') = sumW (L.take i') := by rw [hi', hnx]; unfold sumW1; rw [if_neg hk.1, if_pos hk.2, ← ha', ← hb']
             have hi'' : i' ≤ L.length := by omega
             refine ⟨⟨(i', a', b'), hi'', hinv⟩, ?_, show L.length - i' < L.length - i by omega⟩
             clear hnx hv1 hv2
             unfold fA at ha' hb'
             cbv
             subst hA
             simp [-List.getD_eq_getElem?_getD, std_add, std_sub, std_mul, std_quo, std_rem, std_band, std_bor, std_bxor, std_shl, std_shr, std_eq, std_ne, std_lt, std_le, std_conv, std_not, std_beq, std_bne, std_ite, std_want, std_and2, std_sadd, std_seq, std_sne, std_slt, std_sle, std_sgt, std_sge, std_slen, std_sget, std_scut, std_ofNat, std_toNat, std_nsub, std_nadd, std_lenOf, std_nz, std_nneg, std_inb, std_upto, std_slt63, std_grow, std_imp, std_impN, std_tr, std_tb, std_ti, std_ts, std_tn, std_tp, std_nmin, std_makes, std_room, std_zeros, std_nilq, std_notq, std_eqi, std_eqn, std_eqb, std_eqs, std_eqv, std_cat, std_lst, std_rset, std_rcopy, std_shift, std_eqr, std_strOf, std_bytesOf, std_isB, std_zOf, zOf_int, std_isI, isI_int, std_getL, std_nmul, std_sOf, sOf_str, std_isS, isS_str, std_fadd, std_fsub, std_fav, std_fsv, std_feq, std_fne, std_flt, std_fle, std_fgt, std_fge, std_fOf, std_fTo, std_fTv, hg]
             first | exact ⟨⟨ha'.symm, hb'.symm⟩, hw⟩ | trace_state)
          | (obtain ⟨i', hi'⟩ : ∃ i', i' = i + 1 := ⟨_, rfl⟩
             have hw := w_succ' hi' (by omega)
             have hk : ¬e.st = 1 ∧ ¬e.st = 3 := by
               clear hnx hv1 hv2
               subst hA
               simp [-List.getD_eq_getElem?_getD, std_add, std_sub, std_mul, std_quo, std_rem, std_band, std_bor, std_bxor, std_shl, std_shr, std_eq, std_ne, std_lt, std_le, std_conv, std_not, std_beq, std_bne, std_ite, std_want, std_and2, std_sadd, std_seq, std_sne, std_slt, std_sle, std_sgt, std_sge, std_slen, std_sget, std_scut, std_ofNat, std_toNat, std_nsub, std_nadd, std_lenOf, std_nz, std_nneg, std_inb, std_upto, std_slt63, std_grow, std_imp, std_impN, std_tr, std_tb, std_ti, std_ts, std_tn, std_tp, std_nmin, std_makes, std_room, std_zeros, std_nilq, std_notq, std_eqi, std_eqn, std_eqb, std_eqs, std_eqv, std_cat, std_lst, std_rset, std_rcopy, std_shift, std_eqr, std_strOf, std_bytesOf, std_isB, std_zOf, zOf_int, std_isI, isI_int, std_getL, std_nmul, std_sOf, sOf_str, std_isS, isS_str, std_fadd, std_fsub, std_fav, std_fsv, std_feq, std_fne, std_flt, std_fle, std_fgt, std_fge, std_fOf, std_fTo, std_fTv, hg] at *
               exact ⟨by assumption, by assumption⟩
             have hinv : (a, b) = sumW (L.take i') := by rw [hi', hnx]; unfold sumW1; rw [if_neg hk.1, if_neg hk.2]
             have hi'' : i' ≤ L.length := by omega
             refine ⟨⟨(i', a, b), hi'', hinv⟩, ?_, show L.length - i' < L.length - i by omega⟩
             clear hnx hv1 hv2
             cbv
             subst hA
             simp [-List.getD_eq_getElem?_getD, std_add, std_sub, std_mul, std_quo, std_rem, std_band, std_bor, std_bxor, std_shl, std_shr, std_eq, std_ne, std_lt, std_le, std_conv, std_not, std_beq, std_bne, std_ite, std_want, std_and2, std_sadd, std_seq, std_sne, std_slt, std_sle, std_sgt, std_sge, std_slen, std_sget, std_scut, std_ofNat, std_toNat, std_nsub, std_nadd, std_lenOf, std_nz, std_nneg, std_inb, std_upto, std_slt63, std_grow, std_imp, std_impN, std_tr, std_tb, std_ti, std_ts, std_tn, std_tp, std_nmin, std_makes, std_room, std_zeros, std_nilq, std_notq, std_eqi, std_eqn, std_eqb, std_eqs, std_eqv, std_cat, std_lst, std_rset, std_rcopy, std_shift, std_eqr, std_strOf, std_bytesOf, std_isB, std_zOf, zOf_int, std_isI, isI_int, std_getL, std_nmul, std_sOf, sOf_str, std_isS, isS_str, std_fadd, std_fsub, std_fav, std_fsv, std_feq, std_fne, std_flt, std_fle, std_fgt, std_fge, std_fOf, std_fTo, std_fTv, hg]
             first | exact hw | trace_state)
          | trace_state
      · have hie : i = L.length := by omega
        rw [hie, List.take_length] at hz
        have h1 : (suW L).1 = a := by rw [suW_yes hlr, ← hz]
        have h2 : (suW L).2 = b := by rw [suW_yes hlr, ← hz]
        clear ham hz
        cbv
        repeat' (first | with_reducible exact True.intro | with_reducible exact dr_ok hA (by kernel_rfl) | with_reducible refine And.intro ?_ ?_ | (intro hc; cbv))
        all_goals first
          | (exfalso; subst hA; simp [-List.getD_eq_getElem?_getD, std_add, std_sub, std_mul, std_quo, std_rem, std_band, std_bor, std_bxor, std_shl, std_shr, std_eq, std_ne, std_lt, std_le, std_conv, std_not, std_beq, std_bne, std_ite, std_want, std_and2, std_sadd, std_seq, std_sne, std_slt, std_sle, std_sgt, std_sge, std_slen, std_sget, std_scut, std_ofNat, std_toNat, std_nsub, std_nadd, std_lenOf, std_nz, std_nneg, std_inb, std_upto, std_slt63, std_grow, std_imp, std_impN, std_tr, std_tb, std_ti, std_ts, std_tn, std_tp, std_nmin, std_makes, std_room, std_zeros, std_nilq, std_notq, std_eqi, std_eqn, std_eqb, std_eqs, std_eqv, std_cat, std_lst, std_rset, std_rcopy, std_shift, std_eqr, std_strOf, std_bytesOf, std_isB, std_zOf, zOf_int, std_isI, isI_int, std_getL, std_nmul, std_sOf, sOf_str, std_isS, isS_str, std_fadd, std_fsub, std_fav, std_fsv, std_feq, std_fne, std_flt, std_fle, std_fgt, std_fge, std_fOf, std_fTo, std_fTv] at hc; omega)
          | (exfalso; subst hA; rename_i q; simp [-List.getD_eq_getElem?_getD, std_add, std_sub, std_mul, std_quo, std_rem, std_band, std_bor, std_bxor, std_shl, std_shr, std_eq, std_ne, std_lt, std_le, std_conv, std_not, std_beq, std_bne, std_ite, std_want, std_and2, std_sadd, std_seq, std_sne, std_slt, std_sle, std_sgt, std_sge, std_slen, std_sget, std_scut, std_ofNat, std_toNat, std_nsub, std_nadd, std_lenOf, std_nz, std_nneg, std_inb, std_upto, std_slt63, std_grow, std_imp, std_impN, std_tr, std_tb, std_ti, std_ts, std_tn, std_tp, std_nmin, std_makes, std_room, std_zeros, std_nilq, std_notq, std_eqi, std_eqn, std_eqb, std_eqs, std_eqv, std_cat, std_lst, std_rset, std_rcopy, std_shift, std_eqr, std_strOf, std_bytesOf, std_isB, std_zOf, zOf_int, std_isI, isI_int, std_getL, std_nmul, std_sOf, sOf_str, std_isS, isS_str, std_fadd, std_fsub, std_fav, std_fsv, std_feq, std_fne, std_flt, std_fle, std_fgt, std_fge, std_fOf, std_fTo, std_fTv] at q; omega)
          | (exfalso; subst hA; rename_i q q2; simp [-List.getD_eq_getElem?_getD, std_add, std_sub, std_mul, std_quo, std_rem, std_band, std_bor, std_bxor, std_shl, std_shr, std_eq, std_ne, std_lt, std_le, std_conv, std_not, std_beq, std_bne, std_ite, std_want, std_and2, std_sadd, std_seq, std_sne, std_slt, std_sle, std_sgt, std_sge, std_slen, std_sget, std_scut, std_ofNat, std_toNat, std_nsub, std_nadd, std_lenOf, std_nz, std_nneg, std_inb, std_upto, std_slt63, std_grow, std_imp, std_impN, std_tr, std_tb, std_ti, std_ts, std_tn, std_tp, std_nmin, std_makes, std_room, std_zeros, std_nilq, std_notq, std_eqi, std_eqn, std_eqb, std_eqs, std_eqv, std_cat, std_lst, std_rset, std_rcopy, std_shift, std_eqr, std_strOf, std_bytesOf, std_isB, std_zOf, zOf_int, std_isI, isI_int, std_getL, std_nmul, std_sOf, sOf_str, std_isS, isS_str, std_fadd, std_fsub, std_fav, std_fsv, std_feq, std_fne, std_flt, std_fle, std_fgt, std_fge, std_fOf, std_fTo, std_fTv] at q; omega)
          | (exfalso; subst hA; rename_i q q2 q3; simp [-List.getD_eq_getElem?_getD, std_add, std_sub, std_mul, std_quo, std_rem, std_band, std_bor, std_bxor, std_shl, std_shr, std_eq, std_ne, std_lt, std_le, std_conv, std_not, std_beq, std_bne, std_ite, std_want, std_and2, std_sadd, std_seq, std_sne, std_slt, std_sle, std_sgt, std_sge, std_slen, std_sget, std_scut, std_ofNat, std_toNat, std_nsub, std_nadd, std_lenOf, std_nz, std_nneg, std_inb, std_upto, std_slt63, std_grow, std_imp, std_impN, std_tr, std_tb, std_ti, std_ts, std_tn, std_tp, std_nmin, std_makes, std_room, std_zeros, std_nilq, std_notq, std_eqi, std_eqn, std_eqb, std_eqs, std_eqv, std_cat, std_lst, std_rset, std_rcopy, std_shift, std_eqr, std_strOf, std_bytesOf, std_isB, std_zOf, zOf_int, std_isI, isI_int, std_getL, std_nmul, std_sOf, sOf_str, std_isS, isS_str, std_fadd, std_fsub, std_fav, std_fsv, std_feq, std_fne, std_flt, std_fle, std_fgt, std_fge, std_fOf, std_fTo, std_fTv] at q; omega)
          | (subst hA
             simp [-List.getD_eq_getElem?_getD, std_add, std_sub, std_mul, std_quo, std_rem, std_band, std_bor, std_bxor, std_shl, std_shr, std_eq, std_ne, std_lt, std_le, std_conv, std_not, std_beq, std_bne, std_ite, std_want, std_and2, std_sadd, std_seq, std_sne, std_slt, std_sle, std_sgt, std_sge, std_slen, std_sget, std_scut, std_ofNat, std_toNat, std_nsub, std_nadd, std_lenOf, std_nz, std_nneg, std_inb, std_upto, std_slt63, std_grow, std_imp, std_impN, std_tr, std_tb, std_ti, std_ts, std_tn, std_tp, std_nmin, std_makes, std_room, std_zeros, std_nilq, std_notq, std_eqi, std_eqn, std_eqb, std_eqs, std_eqv, std_cat, std_lst, std_rset, std_rcopy, std_shift, std_eqr, std_strOf, std_bytesOf, std_isB, std_zOf, zOf_int, std_isI, isI_int, std_getL, std_nmul, std_sOf, sOf_str, std_isS, isS_str, std_fadd, std_fsub, std_fav, std_fsv, std_feq, std_fne, std_flt, std_fle, std_fgt, std_fge, std_fOf, std_fTo, std_fTv, h1, h2] at *
             first | done | trace_state)
          | trace_state
noncomputable def c_lSum : Ct := fun A args => match args with
  | [.agg [.slc n 4 f]] => some (some (A.tp fun _ => isRow eH H0 4 n f ∧ n ≤ 1000000 ∧ ∀ e ∈ lstOf eH H0 4 n f, 0 ≤ e.am), .cpx (A.tn fun _ => (suW (lstOf eH H0 4 n f)).1) (A.tn fun _ => (suW (lstOf eH H0 4 n f)).2))
  | _ => none
noncomputable def gy7s : Ar → Pu := addC 67 c_lSum (gy6)
theorem gy7s_ok : PuOk Tryd.prog gl0 (gy7s std) := by
  refine addC_ok (gy6_ok) ⟨_, Tryd.func67, rfl, by decide⟩ ?_
  · intro args p r h hp
    unfold c_lSum at h
    split at h <;> cases h
    exact good_sv (good_lSum _ (by rw [lstOf_length hp.1]; exact hp.2.1) hp.2.2) ⟨⟨_, rfl, hp.1.sv, trivial⟩, trivial⟩
end Go.Vd

set_option linter.unusedVariables false
set_option linter.unusedSimpArgs false
set_option maxRecDepth 100000
set_option maxHeartbeats 8000000
namespace Go.Vd
theorem signs2 (s : List UInt8) : signs 2 s = s.all okB := rfl
theorem rr_37 (s : List UInt8) : rr 37 s = (decide (s.length = 12) && s.all okB) := by
  have h : dFind FL 37 = some (2, 12) := rfl
  have e1 : dOk 37 = true := by simp [dOk, h]
  have e2 : dKd 37 = 2 := by simp [dKd, h]
  have e3 : dSz 37 = 12 := by simp [dSz, h]
  unfold rr
  rw [e1, e2, e3, signs2]
  by_cases h : s.length = 12
  · have hne : ¬s = [] := fun e => by rw [e] at h; simp at h
    rw [if_pos ⟨rfl, hne, by omega, fun _ => by omega⟩]
    simp [h]
  · rw [if_neg (fun h' => h (by have := h'.2.2.1; have := h'.2.2.2 (by omega); omega))]
    simp [h]
theorem dR_key {k a s : Int} {p r c : List UInt8} (h : dR k a s p r c = true) : keyOk s r = true ∧ a < 1000000000000 := by
  unfold dR at h
  simp only [Bool.and_eq_true, decide_eq_true_eq] at h
  obtain ⟨_, h2, h3, h4⟩ := h
  rw [rr_37] at h3
  simp only [Bool.and_eq_true, decide_eq_true_eq] at h3
  refine ⟨?_, ?_⟩
  · unfold keyOk
    simp only [Bool.and_eq_true, decide_eq_true_eq]
    exact ⟨h2, h3⟩
  · split at h4
    · simp only [Bool.and_eq_true, decide_eq_true_eq] at h4
      exact h4.2.2.1
    · simp only [Bool.and_eq_true, decide_eq_true_eq] at h4
      omega
theorem hR_of {k a s : Int} {p r c : List UInt8} (h : dR k a s p r c = true) {st : Int} (h1 : 1 ≤ st) (h2 : st ≤ 3) : hR ⟨s, r, a, st⟩ = true := by
  obtain ⟨h3, h4⟩ := dR_key h
  simp only [hR, Bool.and_eq_true, decide_eq_true_eq]
  exact ⟨h3, h4, h1, h2⟩
/-- A ledger stays right. -/
theorem doL_R {L : List Hld} {k a s : Int} {p r c : List UInt8} (hL : leR L = true) (hd : dR k a s p r c = true) (ok : Bool) : leR (doL L k a s r ok) = true := by
  unfold doL
  cases hh : has L s r
  · simp only [Bool.false_eq_true, if_false]
    have hins : ∀ st : Int, 1 ≤ st → st ≤ 3 → leR (opnH L ⟨s, r, a, st⟩) = true := fun st h1 h2 => by
      unfold opnH
      split
      · exact hL
      · rename_i hl
        exact (insH_mid hL (e := ⟨s, r, a, st⟩) (hR_of hd h1 h2) hh hl).1
    split
    · cases ok
      · exact hins 2 (by decide) (by decide)
      · exact hins 1 (by decide) (by decide)
    · split
      · exact hins 3 (by decide) (by decide)
      · exact hL
  · simp only [if_true]
    split
    · exact hL
    · split
      · exact (gvH_mid hL hh).1
      · exact hL
/-- A deal done once more alters nothing, and is answered as before. -/
theorem do_twice {L : List Hld} {k a s : Int} {p r c : List UInt8} (hL : leR L = true) (hd : dR k a s p r c = true) (o1 o2 : Bool) :
    doL (doL L k a s r o1) k a s r o2 = doL L k a s r o1 ∧ doC (doL L k a s r o1) k a s r o2 = doC L k a s r o1 := by
  have hfull : has L s r = false → 256 ≤ L.length → ∀ e : Hld, opnH L e = L := fun _ h e => if_pos h
  cases hh : has L s r
  · by_cases hl : 256 ≤ L.length
    · have e1 : doL L k a s r o1 = L := by unfold doL; rw [hh]; simp [opnH, hl]
      have e2 : doL L k a s r o2 = L := by unfold doL; rw [hh]; simp [opnH, hl]
      rw [e1, e2]
      refine ⟨rfl, ?_⟩
      unfold doC opnC
      rw [hh]
      simp [hl]
    · have hins := fun (st : Int) (h1 : 1 ≤ st) (h2 : st ≤ 3) => insH_mid hL (e := ⟨s, r, a, st⟩) (hR_of hd h1 h2) hh hl
      by_cases hk : k = 1
      · have e1 : doL L k a s r o1 = insH L ⟨s, r, a, if o1 = true then 1 else 2⟩ := by unfold doL opnH; rw [hh, if_pos hk, if_neg hl]; rfl
        have h3 := hins (if o1 = true then 1 else 2) (by cases o1 <;> decide) (by cases o1 <;> decide)
        simp only at h3
        rw [e1]
        refine ⟨by unfold doL; rw [if_pos hk, if_pos h3.2.1], ?_⟩
        unfold doC
        rw [if_pos hk, if_pos hk, if_pos h3.2.1, hh, h3.2.2.2.1]
        unfold opnC
        rw [if_neg hl]
        cases o1 <;> simp [agC]
      · by_cases hk2 : k = 5 ∨ k = 6
        · have e1 : doL L k a s r o1 = insH L ⟨s, r, a, 3⟩ := by unfold doL opnH; rw [hh, if_neg hk, if_pos hk2, if_neg hl]; rfl
          have h3 := hins 3 (by decide) (by decide)
          simp only at h3
          rw [e1]
          refine ⟨?_, ?_⟩
          · unfold doL
            rw [if_neg hk, if_pos hk2, if_pos h3.2.1]
            unfold gvH
            rw [h3.2.2.2.1]
            have hp := (has_pos ((ascB_iff _).1 (leR_asc h3.1).1) h3.2.1).1
            conv => rhs; rw [← List.set_getElem_self hp]
            congr 1
            rw [getD_get hp, h3.2.2.2.1]
          · unfold doC
            rw [if_neg hk, if_neg hk, if_pos hk2, if_pos hk2, if_pos h3.2.1, hh]
            unfold opnC
            rw [if_neg hl]
            rfl
        · have e1 : ∀ M o, doL M k a s r o = M := fun M o => by unfold doL; rw [if_neg hk, if_neg hk2]
          have e2 : ∀ M o, doC M k a s r o = [] := fun M o => by unfold doC; rw [if_neg hk, if_neg hk2]
          rw [e1, e1, e2, e2]
          exact ⟨rfl, rfl⟩
  · by_cases hk : k = 1
    · have e1 : ∀ o, doL L k a s r o = L := fun o => by unfold doL; rw [if_pos hk, if_pos hh]
      rw [e1, e1]
      refine ⟨rfl, ?_⟩
      unfold doC
      rw [if_pos hk, if_pos hh, if_pos hk, if_pos hh]
    · by_cases hk2 : k = 5 ∨ k = 6
      · have h3 := gvH_mid hL hh
        have e1 : ∀ o, doL L k a s r o = gvH L (pos L s r) := fun o => by unfold doL; rw [if_neg hk, if_pos hk2, if_pos hh]
        rw [e1]
        refine ⟨?_, ?_⟩
        · unfold doL
          rw [if_neg hk, if_pos hk2, if_pos h3.2.1, h3.2.2.2.2.1, h3.2.2.2.2.2.1]
        · unfold doC
          rw [if_neg hk, if_pos hk2, if_pos h3.2.1, if_neg hk, if_pos hk2, if_pos hh]
      · have e1 : ∀ M o, doL M k a s r o = M := fun M o => by unfold doL; rw [if_neg hk, if_neg hk2]
        have e2 : ∀ M o, doC M k a s r o = [] := fun M o => by unfold doC; rw [if_neg hk, if_neg hk2]
        rw [e1, e1, e2, e2]
        exact ⟨rfl, rfl⟩
/-- And so with whatever is handed in. -/
theorem le_twice (L : List Hld) (k a s : Int) (p r c : List UInt8) (o1 o2 : Bool) :
    lgL (lgL L k a s p r c o1) k a s p r c o2 = lgL L k a s p r c o1 ∧ lgE (lgL L k a s p r c o1) k a s p r c = lgE L k a s p r c ∧
      (lgE L k a s p r c = 0 → doC (lgL L k a s p r c o1) k a s r o2 = doC L k a s r o1) := by
  by_cases h : lgOk L k a s p r c = true
  · have h2 : leR L = true ∧ dR k a s p r c = true := by simpa [lgOk] using h
    have h3 := do_twice h2.1 h2.2 o1 o2
    have e1 : lgL L k a s p r c o1 = doL L k a s r o1 := if_pos h
    have h4 : lgOk (doL L k a s r o1) k a s p r c = true := by unfold lgOk; rw [doL_R h2.1 h2.2 o1, h2.2]; rfl
    rw [e1]
    refine ⟨by unfold lgL; rw [if_pos h4]; exact h3.1, by unfold lgE; rw [if_pos h4, if_pos h], fun _ => h3.2⟩
  · have e1 : ∀ o, lgL L k a s p r c o = L := fun o => if_neg h
    rw [e1, e1]
    refine ⟨rfl, rfl, fun h0 => ?_⟩
    unfold lgE at h0
    rw [if_neg h] at h0
    cases h0
end Go.Vd

set_option linter.unusedVariables false
namespace Go.Vd
def svn1 : SV → SV → Prop
  | .slc n k f, t => (∃ g, t = .slc n k g ∧ ∀ i j, i < n → j < k → Ceq (f i j) (g i j)) ∨ (n = 0 ∧ ∃ k' g, t = .slc 0 k' g)
  | .nils, t => ∃ k g, t = .slc 0 k g
  | s, t => s = t
theorem svn1_rel {w : World} {ρ : Nat → Value} {rw N : Nat → Prop} {v : Value} {s t : SV} (h : Rel w ρ rw N v s) (e : svn1 s t) : Rel w ρ rw N v t := by
  cases s with
  | slc n k f =>
    rcases e with e | ⟨rfl, k', g, rfl⟩
    · exact sv1_rel h e
    · cases h with
      | slc a _ c _ _ g2 hn hc ha hr => exact .slc a 0 c k' g (fun _ _ => undef) hn (fun i j hi => absurd hi (by omega)) (fun h => absurd h (by omega)) (fun i j hi => absurd hi (by omega))
  | nils =>
    obtain ⟨k, g, rfl⟩ := e
    cases h with
    | nils => exact .slc none 0 0 k g (fun _ _ => undef) (Nat.le_refl _) (fun i j hi => absurd hi (by omega)) (fun h => absurd h (by omega)) (fun i j hi => absurd hi (by omega))
  | _ => cases e; exact h
def svn2 : SV → SV → Prop
  | .agg l, t => ∃ m, t = .agg m ∧ All2 svn1 l m
  | s, t => svn1 s t
theorem svn2_rel {w : World} {ρ : Nat → Value} {rw N : Nat → Prop} {v : Value} {s t : SV} (h : Rel w ρ rw N v s) (e : svn2 s t) : Rel w ρ rw N v t := by
  cases s with
  | agg l =>
    obtain ⟨m, rfl, he⟩ := e
    generalize hs : SV.agg l = s at h
    cases h with
    | agg cs l' hl h1 hh =>
      cases hs
      have hlen := he.length
      refine .agg _ _ (by omega) h1 fun i v t hv ht => ?_
      have hi : i < l.length := by have := (List.getElem?_eq_some_iff.1 ht).1; omega
      exact svn1_rel (hh i v _ hv (List.getElem?_eq_getElem hi)) (he.get i _ t (List.getElem?_eq_getElem hi) ht)
    | _ => cases hs
  | _ => exact svn1_rel h e
theorem good_svn {P : Program} {gl : Nat → SV} {f : FuncId} {args args' : List SV} {r : SV} (h : GoodP P gl f args' r) (he : All2 svn2 args args') : GoodP P gl f args r := by
  intro w ρ rw N vs hfr hrw hg hargs
  refine h w ρ rw N vs hfr hrw hg ?_
  have key : ∀ {vs : List Value} {l m : List SV}, All2 (Rel w ρ rw N) vs l → All2 svn2 l m → All2 (Rel w ρ rw N) vs m := by
    intro vs
    induction vs with
    | nil => intro l m h1 h2; cases l with
      | nil => cases m with
        | nil => trivial
        | cons => exact h2.elim
      | cons => exact h1.elim
    | cons v vs ih => intro l m h1 h2; cases l with
      | nil => exact h1.elim
      | cons s l => cases m with
        | nil => exact h2.elim
        | cons t m => exact ⟨svn2_rel h1.1 h2.1, ih h1.2 h2.2⟩
  exact key hargs he
end Go.Vd

set_option linter.unusedVariables false
set_option linter.unusedSimpArgs false
set_option maxRecDepth 100000
set_option maxHeartbeats 8000000
namespace Go.Vd
open Go.Proofs Ieee
noncomputable def c_leDo : Ct := fun A args => match args with
  | [.agg [.slc n 4 f], .agg [.int .i64 k, .str p, .int .u64 a, .int .u32 s, .str r, .str c], .bool ok] => some (some (A.tp fun _ => (isRow eH H0 4 n f ∧ n ≤ 1000000) ∧ p.length ≤ 100000 ∧ r.length ≤ 1000000 ∧ c.length ≤ 1000000), .tup [sL A fun _ => lgL (lstOf eH H0 4 n f) k a s p r c ok, anS A (fun _ => lstOf eH H0 4 n f) k a s p r c ok, .int .i64 (A.ti fun _ => lgE (lstOf eH H0 4 n f) k a s p r c)])
  | [.agg [.slc m 1 g], .agg [.int .i64 k, .str p, .int .u64 a, .int .u32 s, .str r, .str c], .bool ok] => some (some (A.tp fun _ => m = 0 ∧ p.length ≤ 100000 ∧ r.length ≤ 1000000 ∧ c.length ≤ 1000000), .tup [sL A fun _ => lgL [] k a s p r c ok, anS A (fun _ => []) k a s p r c ok, .int .i64 (A.ti fun _ => lgE [] k a s p r c)])
  | _ => none
noncomputable def gy8 : Ar → Pu := addC 61 c_leDo gy7s
theorem gy8_ok : PuOk Tryd.prog gl0 (gy8 std) := by
  refine addC_ok gy7s_ok ⟨_, Tryd.func61, rfl, by decide⟩ ?_
  intro args p r h hp
  unfold c_leDo at h
  split at h <;> cases h
  · exact good_svn (good_leDo _ _ _ _ _ _ _ _ (by rw [lstOf_length hp.1.1]; exact hp.1.2) hp.2.1 hp.2.2.1 hp.2.2.2) ⟨⟨_, rfl, .inl hp.1.1.sv, trivial⟩, ⟨_, rfl, rfl, rfl, rfl, rfl, rfl, rfl, trivial⟩, rfl, trivial⟩
  · exact good_svn (good_leDo [] _ _ _ _ _ _ _ (by simp) hp.2.1 hp.2.2.1 hp.2.2.2) ⟨⟨_, rfl, .inr ⟨hp.1, _, _, rfl⟩, trivial⟩, ⟨_, rfl, rfl, rfl, rfl, rfl, rfl, rfl, trivial⟩, rfl, trivial⟩
def rr1 : List UInt8 := [82, 82, 78, 48, 48, 48, 48, 48, 48, 48, 48, 49]
attribute [local irreducible] vc
theorem good_leAwake  : GoodP Tryd.prog gl0 57 [] (.bool true) := by
  refine fn_sound' (T := seatT) (G := gy8) (X := noX) seatT_ok gy8_ok noX_ok noI_ok mixed Tryd.func57 (.one) (fun A => []) (fun A => .bool true) fun A hA => ?_
  cbv
  repeat' (first | with_reducible exact True.intro | with_reducible exact dr_ok hA (by kernel_rfl) | with_reducible refine And.intro ?_ ?_ | (intro hc; cbv))
  all_goals (subst hA; try simp only [std_add, std_sub, std_mul, std_quo, std_rem, std_band, std_bor, std_bxor, std_shl, std_shr, std_eq, std_ne, std_lt, std_le, std_conv, std_not, std_beq, std_bne, std_ite, std_want, std_and2, std_sadd, std_seq, std_sne, std_slt, std_sle, std_sgt, std_sge, std_slen, std_sget, std_scut, std_ofNat, std_toNat, std_nsub, std_nadd, std_lenOf, std_nz, std_nneg, std_inb, std_upto, std_slt63, std_grow, std_imp, std_impN, std_tr, std_tb, std_ti, std_ts, std_tn, std_tp, std_nmin, std_makes, std_room, std_zeros, std_nilq, std_notq, std_eqi, std_eqn, std_eqb, std_eqs, std_eqv, std_cat, std_lst, std_rset, std_rcopy, std_shift, std_eqr, std_strOf, std_bytesOf, std_isB, std_zOf, zOf_int, std_isI, isI_int, std_getL, std_nmul, std_sOf, sOf_str, std_isS, isS_str, std_fadd, std_fsub, std_fav, std_fsv, std_feq, std_fne, std_flt, std_fle, std_fgt, std_fge, std_fOf, std_fTo, std_fTv, strOf_lit, lstOf_lit inj_eB, lstOf_lit inj_eZ, lstOf_lit inj_eBs, lstOf_lit inj_eS, lstOf_V, isRow_V] at *)
  all_goals first
    | exact ⟨trivial, by decide⟩
    | decide
    | trace_state
end Go.Vd

set_option linter.unusedVariables false
set_option linter.unusedSimpArgs false
set_option maxRecDepth 100000
set_option maxHeartbeats 8000000
namespace Go.Vd
open Go.Proofs
attribute [local irreducible] vc
theorem good_kShort (s : Int) (r : List UInt8) : GoodP Tryd.prog gl0 43 [sKey std s r] (.bool (std.tb fun _ => decide (r.length ≤ 300))) := by
  refine fn_sound' (T := seatT) (G := noC) (X := noX) seatT_ok noC_ok noX_ok noI_ok mixed Tryd.func43 (.one) (fun A => [sKey A s r]) (fun A => .bool (A.tb fun _ => decide (r.length ≤ 300))) fun A hA => ?_
  cbv
  repeat' (first | with_reducible exact True.intro | with_reducible exact dr_ok hA (by kernel_rfl) | with_reducible refine And.intro ?_ ?_ | (intro hc; cbv))
  all_goals (subst hA; simp [std_add, std_sub, std_mul, std_quo, std_rem, std_band, std_bor, std_bxor, std_shl, std_shr, std_eq, std_ne, std_lt, std_le, std_conv, std_not, std_beq, std_bne, std_ite, std_want, std_and2, std_sadd, std_seq, std_sne, std_slt, std_sle, std_sgt, std_sge, std_slen, std_sget, std_scut, std_ofNat, std_toNat, std_nsub, std_nadd, std_lenOf, std_nz, std_nneg, std_inb, std_upto, std_slt63, std_grow, std_imp, std_impN, std_tr, std_tb, std_ti, std_ts, std_tn, std_tp, std_nmin, std_makes, std_room, std_zeros, std_nilq, std_notq, std_eqi, std_eqn, std_eqb, std_eqs, std_eqv, std_cat, std_lst, std_rset, std_rcopy, std_shift, std_eqr, std_strOf, std_bytesOf, std_isB, std_zOf, zOf_int, std_isI, isI_int, std_getL, std_nmul, std_sOf, sOf_str, std_isS, isS_str, std_fadd, std_fsub, std_fav, std_fsv, std_feq, std_fne, std_flt, std_fle, std_fgt, std_fge, std_fOf, std_fTo, std_fTv] at *)
  all_goals omega
noncomputable def c_kShort : Ct := fun A args => match args with
  | [.agg [.int .u32 s, .str r]] => some (none, .bool (A.tb fun _ => decide (r.length ≤ 300)))
  | _ => none
noncomputable def gy7 : Ar → Pu := addC 43 c_kShort (gy6)
theorem gy7_ok : PuOk Tryd.prog gl0 (gy7 std) := by
  refine addC_ok (gy6_ok) ⟨_, Tryd.func43, rfl, by decide⟩ ?_
  · intro args p r h hp
    unfold c_kShort at h
    split at h <;> cases h
    exact good_kShort _ _
def shE (e : Hld) : Bool := decide (e.r.length ≤ 300)
def shL (L : List Hld) : Bool := decide (L.length ≤ 300) && L.all shE
theorem shL_iff {L : List Hld} : shL L = true ↔ L.length ≤ 300 ∧ ∀ e ∈ L, shE e = true := by simp [shL]
theorem shL_no {L : List Hld} {i : Nat} (hi : i < L.length) (h : shE (L.getD i H0) = false) : shL L = false := by
  cases e : shL L
  · rfl
  · have := (shL_iff.1 e).2 (L.getD i H0) (by rw [List.getD_eq_getElem?_getD, List.getElem?_eq_getElem hi]; exact List.getElem_mem hi)
    rw [h] at this
    cases this
theorem shL_yes {L : List Hld} (h : ∀ j, j < L.length → shE (L.getD j H0) = true) : shL L = decide (L.length ≤ 300) := by
  have : L.all shE = true := List.all_eq_true.2 fun d hd => by
    obtain ⟨j, hj, e⟩ := List.getElem_of_mem hd
    have := h j hj
    rw [List.getD_eq_getElem?_getD, List.getElem?_eq_getElem hj] at this
    exact e ▸ this
  unfold shL
  rw [this, Bool.and_true]
theorem shL_big {L : List Hld} (h : ¬L.length ≤ 300) : shL L = false := by simp [shL, h]
theorem good_lShort (L : List Hld) (hL : L.length ≤ 9223372036854775807) : GoodP Tryd.prog gl0 58 [.agg [rowS eH H0 4 std fun _ => L]] (.bool (std.tb fun _ => shL L)) := by
  refine fn_sound' (T := seatT) (G := gy7) (X := noX) seatT_ok gy7_ok noX_ok noI_ok mixed Tryd.func58 (.one) (fun A => [.agg [rowS eH H0 4 A fun _ => L]]) (fun A => .bool (A.tb fun _ => shL L)) fun A hA => ?_
  cbv
  repeat' (first | with_reducible exact True.intro | with_reducible exact dr_ok hA (by kernel_rfl) | with_reducible refine And.intro ?_ ?_ | (intro hc; cbv))
  refine ⟨⟨{i : Nat // i ≤ L.length ∧ i ≤ 300 ∧ ∀ j, j < i → shE (L.getD j H0) = true}, fun b i => [(3, .int .i64 (i.1 : Nat))], fun b i => [], fun i => L.length - i.1, true⟩, ⟨⟨0, by omega, by omega, by simp⟩, ?_⟩, ?_⟩
  · cbv
    subst hA
    simp [-List.getD_eq_getElem?_getD, std_add, std_sub, std_mul, std_quo, std_rem, std_band, std_bor, std_bxor, std_shl, std_shr, std_eq, std_ne, std_lt, std_le, std_conv, std_not, std_beq, std_bne, std_ite, std_want, std_and2, std_sadd, std_seq, std_sne, std_slt, std_sle, std_sgt, std_sge, std_slen, std_sget, std_scut, std_ofNat, std_toNat, std_nsub, std_nadd, std_lenOf, std_nz, std_nneg, std_inb, std_upto, std_slt63, std_grow, std_imp, std_impN, std_tr, std_tb, std_ti, std_ts, std_tn, std_tp, std_nmin, std_makes, std_room, std_zeros, std_nilq, std_notq, std_eqi, std_eqn, std_eqb, std_eqs, std_eqv, std_cat, std_lst, std_rset, std_rcopy, std_shift, std_eqr, std_strOf, std_bytesOf, std_isB, std_zOf, zOf_int, std_isI, isI_int, std_getL, std_nmul, std_sOf, sOf_str, std_isS, isS_str, std_fadd, std_fsub, std_fav, std_fsv, std_feq, std_fne, std_flt, std_fle, std_fgt, std_fge, std_fOf, std_fTo, std_fTv]
  · rintro ⟨i, hx⟩
    have hi := hx.1
    have hi2 := hx.2.1
    have h0 := hx.2.2
    obtain ⟨e, he⟩ : ∃ e, e = L.getD i H0 := ⟨_, rfl⟩
    have hg : L.getD i { s := 0, r := [], am := 0, st := 0 } = e := he.symm
    by_cases hlt : i < L.length ∧ i < 300
    · have hno := fun h => shL_no (L := L) hlt.1 (he ▸ h)
      cbv
      repeat' (first | with_reducible exact True.intro | with_reducible exact dr_ok hA (by kernel_rfl) | with_reducible refine And.intro ?_ ?_ | (intro hc; cbv))
      all_goals first
        | (fail_if_success (refine Exists.intro ?_ ?_)
           clear h0
           subst hA
           simp [-List.getD_eq_getElem?_getD, std_add, std_sub, std_mul, std_quo, std_rem, std_band, std_bor, std_bxor, std_shl, std_shr, std_eq, std_ne, std_lt, std_le, std_conv, std_not, std_beq, std_bne, std_ite, std_want, std_and2, std_sadd, std_seq, std_sne, std_slt, std_sle, std_sgt, std_sge, std_slen, std_sget, std_scut, std_ofNat, std_toNat, std_nsub, std_nadd, std_lenOf, std_nz, std_nneg, std_inb, std_upto, std_slt63, std_grow, std_imp, std_impN, std_tr, std_tb, std_ti, std_ts, std_tn, std_tp, std_nmin, std_makes, std_room, std_zeros, std_nilq, std_notq, std_eqi, std_eqn, std_eqb, std_eqs, std_eqv, std_cat, std_lst, std_rset, std_rcopy, std_shift, std_eqr, std_strOf, std_bytesOf, std_isB, std_zOf, zOf_int, std_isI, isI_int, std_getL, std_nmul, std_sOf, sOf_str, std_isS, isS_str, std_fadd, std_fsub, std_fav, std_fsv, std_feq, std_fne, std_flt, std_fle, std_fgt, std_fge, std_fOf, std_fTo, std_fTv, hg] at *
           first
             | done
             | exact ⟨(show (0 : Int) ≤ ((i : Nat) : Int) by omega), (show ((i : Nat) : Int) < ((L.length : Nat) : Int) by omega)⟩
             | exact hno (by simp [shE]; omega)
             | exact hno hc
             | omega
             | (exfalso; omega)
             | trace_state)
        | (obtain ⟨i', hi'⟩ : ∃ i', i' = i + 1 := ⟨_, rfl⟩
           have hk : shE e = true := by
             clear h0
             subst hA
             simp [-List.getD_eq_getElem?_getD, std_add, std_sub, std_mul, std_quo, std_rem, std_band, std_bor, std_bxor, std_shl, std_shr, std_eq, std_ne, std_lt, std_le, std_conv, std_not, std_beq, std_bne, std_ite, std_want, std_and2, std_sadd, std_seq, std_sne, std_slt, std_sle, std_sgt, std_sge, std_slen, std_sget, std_scut, std_ofNat, std_toNat, std_nsub, std_nadd, std_lenOf, std_nz, std_nneg, std_inb, std_upto, std_slt63, std_grow, std_imp, std_impN, std_tr, std_tb, std_ti, std_ts, std_tn, std_tp, std_nmin, std_makes, std_room, std_zeros, std_nilq, std_notq, std_eqi, std_eqn, std_eqb, std_eqs, std_eqv, std_cat, std_lst, std_rset, std_rcopy, std_shift, std_eqr, std_strOf, std_bytesOf, std_isB, std_zOf, zOf_int, std_isI, isI_int, std_getL, std_nmul, std_sOf, sOf_str, std_isS, isS_str, std_fadd, std_fsub, std_fav, std_fsv, std_feq, std_fne, std_flt, std_fle, std_fgt, std_fge, std_fOf, std_fTo, std_fTv, hg] at hc
             first | exact hc | (simp [shE]; omega)
           refine ⟨⟨i', by omega, by omega, fun j hj => ?_⟩, ?_, show L.length - i' < L.length - i by omega⟩
           · rcases Nat.lt_or_ge j i with h | h
             · exact h0 j h
             · obtain rfl : j = i := by omega
               rw [← he]; exact hk
           · cbv
             subst hA
             simp [-List.getD_eq_getElem?_getD, std_add, std_sub, std_mul, std_quo, std_rem, std_band, std_bor, std_bxor, std_shl, std_shr, std_eq, std_ne, std_lt, std_le, std_conv, std_not, std_beq, std_bne, std_ite, std_want, std_and2, std_sadd, std_seq, std_sne, std_slt, std_sle, std_sgt, std_sge, std_slen, std_sget, std_scut, std_ofNat, std_toNat, std_nsub, std_nadd, std_lenOf, std_nz, std_nneg, std_inb, std_upto, std_slt63, std_grow, std_imp, std_impN, std_tr, std_tb, std_ti, std_ts, std_tn, std_tp, std_nmin, std_makes, std_room, std_zeros, std_nilq, std_notq, std_eqi, std_eqn, std_eqb, std_eqs, std_eqv, std_cat, std_lst, std_rset, std_rcopy, std_shift, std_eqr, std_strOf, std_bytesOf, std_isB, std_zOf, zOf_int, std_isI, isI_int, std_getL, std_nmul, std_sOf, sOf_str, std_isS, isS_str, std_fadd, std_fsub, std_fav, std_fsv, std_feq, std_fne, std_flt, std_fle, std_fgt, std_fge, std_fOf, std_fTo, std_fTv]
             exact w_succ' hi' (by omega))
        | trace_state
    · have hans : shL L = decide (L.length ≤ 300) := by
        by_cases hb : L.length ≤ 300
        · exact shL_yes fun j hj => h0 j (by omega)
        · rw [shL_big hb, decide_eq_false hb]
      cbv
      repeat' (first | with_reducible exact True.intro | with_reducible exact dr_ok hA (by kernel_rfl) | with_reducible refine And.intro ?_ ?_ | (intro hc; cbv))
      all_goals first
        | (exfalso
           clear h0
           subst hA
           simp [-List.getD_eq_getElem?_getD, std_add, std_sub, std_mul, std_quo, std_rem, std_band, std_bor, std_bxor, std_shl, std_shr, std_eq, std_ne, std_lt, std_le, std_conv, std_not, std_beq, std_bne, std_ite, std_want, std_and2, std_sadd, std_seq, std_sne, std_slt, std_sle, std_sgt, std_sge, std_slen, std_sget, std_scut, std_ofNat, std_toNat, std_nsub, std_nadd, std_lenOf, std_nz, std_nneg, std_inb, std_upto, std_slt63, std_grow, std_imp, std_impN, std_tr, std_tb, std_ti, std_ts, std_tn, std_tp, std_nmin, std_makes, std_room, std_zeros, std_nilq, std_notq, std_eqi, std_eqn, std_eqb, std_eqs, std_eqv, std_cat, std_lst, std_rset, std_rcopy, std_shift, std_eqr, std_strOf, std_bytesOf, std_isB, std_zOf, zOf_int, std_isI, isI_int, std_getL, std_nmul, std_sOf, sOf_str, std_isS, isS_str, std_fadd, std_fsub, std_fav, std_fsv, std_feq, std_fne, std_flt, std_fle, std_fgt, std_fge, std_fOf, std_fTo, std_fTv, hg] at hc
           omega)
        | (exfalso
           clear h0
           subst hA
           rename_i q
           simp [-List.getD_eq_getElem?_getD, std_add, std_sub, std_mul, std_quo, std_rem, std_band, std_bor, std_bxor, std_shl, std_shr, std_eq, std_ne, std_lt, std_le, std_conv, std_not, std_beq, std_bne, std_ite, std_want, std_and2, std_sadd, std_seq, std_sne, std_slt, std_sle, std_sgt, std_sge, std_slen, std_sget, std_scut, std_ofNat, std_toNat, std_nsub, std_nadd, std_lenOf, std_nz, std_nneg, std_inb, std_upto, std_slt63, std_grow, std_imp, std_impN, std_tr, std_tb, std_ti, std_ts, std_tn, std_tp, std_nmin, std_makes, std_room, std_zeros, std_nilq, std_notq, std_eqi, std_eqn, std_eqb, std_eqs, std_eqv, std_cat, std_lst, std_rset, std_rcopy, std_shift, std_eqr, std_strOf, std_bytesOf, std_isB, std_zOf, zOf_int, std_isI, isI_int, std_getL, std_nmul, std_sOf, sOf_str, std_isS, isS_str, std_fadd, std_fsub, std_fav, std_fsv, std_feq, std_fne, std_flt, std_fle, std_fgt, std_fge, std_fOf, std_fTo, std_fTv, hg] at q
           omega)
        | (clear h0
           subst hA
           simp [-List.getD_eq_getElem?_getD, std_add, std_sub, std_mul, std_quo, std_rem, std_band, std_bor, std_bxor, std_shl, std_shr, std_eq, std_ne, std_lt, std_le, std_conv, std_not, std_beq, std_bne, std_ite, std_want, std_and2, std_sadd, std_seq, std_sne, std_slt, std_sle, std_sgt, std_sge, std_slen, std_sget, std_scut, std_ofNat, std_toNat, std_nsub, std_nadd, std_lenOf, std_nz, std_nneg, std_inb, std_upto, std_slt63, std_grow, std_imp, std_impN, std_tr, std_tb, std_ti, std_ts, std_tn, std_tp, std_nmin, std_makes, std_room, std_zeros, std_nilq, std_notq, std_eqi, std_eqn, std_eqb, std_eqs, std_eqv, std_cat, std_lst, std_rset, std_rcopy, std_shift, std_eqr, std_strOf, std_bytesOf, std_isB, std_zOf, zOf_int, std_isI, isI_int, std_getL, std_nmul, std_sOf, sOf_str, std_isS, isS_str, std_fadd, std_fsub, std_fav, std_fsv, std_feq, std_fne, std_flt, std_fle, std_fgt, std_fge, std_fOf, std_fTo, std_fTv, hg] at *
           first
             | done
             | (rw [hans, Bool.eq_iff_iff]; simp; omega)
             | (rw [hans]; simp; done)
             | omega
             | (intros; omega)
             | trace_state)
        | trace_state
noncomputable def c_lShort : Ct := fun A args => match args with
  | [.agg [.slc n 4 f]] => some (some (A.tp fun _ => isRow eH H0 4 n f ∧ n ≤ 9223372036854775807), .bool (A.tb fun _ => shL (lstOf eH H0 4 n f)))
  | _ => none
end Go.Vd

set_option linter.unusedVariables false
set_option linter.unusedSimpArgs false
set_option maxRecDepth 100000
set_option maxHeartbeats 8000000
namespace Go.Vd
open Go.Proofs
theorem Hld_ext {x y : Hld} (h0 : x.s = y.s) (h1 : x.r = y.r) (h2 : x.am = y.am) (h3 : x.st = y.st) : x = y := by cases x; cases y; simp_all
attribute [local irreducible] vc
theorem good_lSame (L M : List Hld) (hL : L.length ≤ 1000000) : GoodP Tryd.prog gl0 66 [.agg [rowS eH H0 4 std fun _ => L], .agg [rowS eH H0 4 std fun _ => M]] (.bool (std.tb fun _ => decide (L = M))) := by
  refine fn_sound' (T := seatT) (G := noC) (X := noX) seatT_ok noC_ok noX_ok noI_ok mixed Tryd.func66 (.one) (fun A => [.agg [rowS eH H0 4 A fun _ => L], .agg [rowS eH H0 4 A fun _ => M]]) (fun A => .bool (A.tb fun _ => decide (L = M))) fun A hA => ?_
  cbv
  repeat' (first | with_reducible exact True.intro | with_reducible exact dr_ok hA (by kernel_rfl) | with_reducible refine And.intro ?_ ?_ | (intro hc; cbv))
  rotate_right
  all_goals first
    | (fail_if_success (refine Exists.intro ?_ ?_)
       subst hA
       simp [std_add, std_sub, std_mul, std_quo, std_rem, std_band, std_bor, std_bxor, std_shl, std_shr, std_eq, std_ne, std_lt, std_le, std_conv, std_not, std_beq, std_bne, std_ite, std_want, std_and2, std_sadd, std_seq, std_sne, std_slt, std_sle, std_sgt, std_sge, std_slen, std_sget, std_scut, std_ofNat, std_toNat, std_nsub, std_nadd, std_lenOf, std_nz, std_nneg, std_inb, std_upto, std_slt63, std_grow, std_imp, std_impN, std_tr, std_tb, std_ti, std_ts, std_tn, std_tp, std_nmin, std_makes, std_room, std_zeros, std_nilq, std_notq, std_eqi, std_eqn, std_eqb, std_eqs, std_eqv, std_cat, std_lst, std_rset, std_rcopy, std_shift, std_eqr, std_strOf, std_bytesOf, std_isB, std_zOf, zOf_int, std_isI, isI_int, std_getL, std_nmul, std_sOf, sOf_str, std_isS, isS_str, std_fadd, std_fsub, std_fav, std_fsv, std_feq, std_fne, std_flt, std_fle, std_fgt, std_fge, std_fOf, std_fTo, std_fTv] at *
       first | done | (intro e; subst e; exact absurd rfl (by assumption)))
    | skip
  have hl : L.length = M.length := by subst hA; simp [std_add, std_sub, std_mul, std_quo, std_rem, std_band, std_bor, std_bxor, std_shl, std_shr, std_eq, std_ne, std_lt, std_le, std_conv, std_not, std_beq, std_bne, std_ite, std_want, std_and2, std_sadd, std_seq, std_sne, std_slt, std_sle, std_sgt, std_sge, std_slen, std_sget, std_scut, std_ofNat, std_toNat, std_nsub, std_nadd, std_lenOf, std_nz, std_nneg, std_inb, std_upto, std_slt63, std_grow, std_imp, std_impN, std_tr, std_tb, std_ti, std_ts, std_tn, std_tp, std_nmin, std_makes, std_room, std_zeros, std_nilq, std_notq, std_eqi, std_eqn, std_eqb, std_eqs, std_eqv, std_cat, std_lst, std_rset, std_rcopy, std_shift, std_eqr, std_strOf, std_bytesOf, std_isB, std_zOf, zOf_int, std_isI, isI_int, std_getL, std_nmul, std_sOf, sOf_str, std_isS, isS_str, std_fadd, std_fsub, std_fav, std_fsv, std_feq, std_fne, std_flt, std_fle, std_fgt, std_fge, std_fOf, std_fTo, std_fTv] at hc; omega
  refine ⟨⟨{i : Nat // i ≤ L.length ∧ L.take i = M.take i}, fun b i => [(5, .int .i64 (i.1 : Nat))], fun b i => [], fun i => L.length - i.1, true⟩, ⟨⟨0, by omega, rfl⟩, ?_⟩, ?_⟩
  · cbv
    subst hA
    simp [-List.getD_eq_getElem?_getD, std_add, std_sub, std_mul, std_quo, std_rem, std_band, std_bor, std_bxor, std_shl, std_shr, std_eq, std_ne, std_lt, std_le, std_conv, std_not, std_beq, std_bne, std_ite, std_want, std_and2, std_sadd, std_seq, std_sne, std_slt, std_sle, std_sgt, std_sge, std_slen, std_sget, std_scut, std_ofNat, std_toNat, std_nsub, std_nadd, std_lenOf, std_nz, std_nneg, std_inb, std_upto, std_slt63, std_grow, std_imp, std_impN, std_tr, std_tb, std_ti, std_ts, std_tn, std_tp, std_nmin, std_makes, std_room, std_zeros, std_nilq, std_notq, std_eqi, std_eqn, std_eqb, std_eqs, std_eqv, std_cat, std_lst, std_rset, std_rcopy, std_shift, std_eqr, std_strOf, std_bytesOf, std_isB, std_zOf, zOf_int, std_isI, isI_int, std_getL, std_nmul, std_sOf, sOf_str, std_isS, isS_str, std_fadd, std_fsub, std_fav, std_fsv, std_feq, std_fne, std_flt, std_fle, std_fgt, std_fge, std_fOf, std_fTo, std_fTv]
  · rintro ⟨i, hx⟩
    have hi := hx.1
    have hz := hx.2
    obtain ⟨e, he⟩ : ∃ e, e = L.getD i H0 := ⟨_, rfl⟩
    obtain ⟨g, hgg⟩ : ∃ g, g = M.getD i H0 := ⟨_, rfl⟩
    have h1 : L.getD i { s := 0, r := [], am := 0, st := 0 } = e := he.symm
    have h2 : M.getD i { s := 0, r := [], am := 0, st := 0 } = g := hgg.symm
    have hne : ¬e = g → ¬L = M := fun hn hLM => hn (by rw [he, hgg, hLM])
    rcases Nat.lt_or_ge i L.length with hlt | hge
    · cbv
      repeat' (first | with_reducible exact True.intro | with_reducible exact dr_ok hA (by kernel_rfl) | with_reducible refine And.intro ?_ ?_ | (intro hc; cbv))
      all_goals first
        | (fail_if_success (refine Exists.intro ?_ ?_)
           clear hz
           subst hA
           simp [-List.getD_eq_getElem?_getD, std_add, std_sub, std_mul, std_quo, std_rem, std_band, std_bor, std_bxor, std_shl, std_shr, std_eq, std_ne, std_lt, std_le, std_conv, std_not, std_beq, std_bne, std_ite, std_want, std_and2, std_sadd, std_seq, std_sne, std_slt, std_sle, std_sgt, std_sge, std_slen, std_sget, std_scut, std_ofNat, std_toNat, std_nsub, std_nadd, std_lenOf, std_nz, std_nneg, std_inb, std_upto, std_slt63, std_grow, std_imp, std_impN, std_tr, std_tb, std_ti, std_ts, std_tn, std_tp, std_nmin, std_makes, std_room, std_zeros, std_nilq, std_notq, std_eqi, std_eqn, std_eqb, std_eqs, std_eqv, std_cat, std_lst, std_rset, std_rcopy, std_shift, std_eqr, std_strOf, std_bytesOf, std_isB, std_zOf, zOf_int, std_isI, isI_int, std_getL, std_nmul, std_sOf, sOf_str, std_isS, isS_str, std_fadd, std_fsub, std_fav, std_fsv, std_feq, std_fne, std_flt, std_fle, std_fgt, std_fge, std_fOf, std_fTo, std_fTv, h1, h2] at *
           first
             | done
             | exact ⟨(show (0 : Int) ≤ ((i : Nat) : Int) by omega), (show ((i : Nat) : Int) < ((M.length : Nat) : Int) by omega)⟩
             | omega
             | (apply hne; intro h; subst h; simp at hc; done)
             | (intro hLM; refine hne ?_ hLM; intro h; subst h; simp at hc; done)
             | trace_state)
        | (obtain ⟨i', hi'⟩ : ∃ i', i' = i + 1 := ⟨_, rfl⟩
           have hk : e = g := by
             clear hz hne
             subst hA
             simp [-List.getD_eq_getElem?_getD, std_add, std_sub, std_mul, std_quo, std_rem, std_band, std_bor, std_bxor, std_shl, std_shr, std_eq, std_ne, std_lt, std_le, std_conv, std_not, std_beq, std_bne, std_ite, std_want, std_and2, std_sadd, std_seq, std_sne, std_slt, std_sle, std_sgt, std_sge, std_slen, std_sget, std_scut, std_ofNat, std_toNat, std_nsub, std_nadd, std_lenOf, std_nz, std_nneg, std_inb, std_upto, std_slt63, std_grow, std_imp, std_impN, std_tr, std_tb, std_ti, std_ts, std_tn, std_tp, std_nmin, std_makes, std_room, std_zeros, std_nilq, std_notq, std_eqi, std_eqn, std_eqb, std_eqs, std_eqv, std_cat, std_lst, std_rset, std_rcopy, std_shift, std_eqr, std_strOf, std_bytesOf, std_isB, std_zOf, zOf_int, std_isI, isI_int, std_getL, std_nmul, std_sOf, sOf_str, std_isS, isS_str, std_fadd, std_fsub, std_fav, std_fsv, std_feq, std_fne, std_flt, std_fle, std_fgt, std_fge, std_fOf, std_fTo, std_fTv, h1, h2] at hc
             exact Hld_ext hc.1 hc.2.1 hc.2.2.1 hc.2.2.2
           refine ⟨⟨i', by omega, ?_⟩, ?_, show L.length - i' < L.length - i by omega⟩
           · rw [hi', ← take_snoc (d := H0) hlt, ← take_snoc (d := H0) (show i < M.length by omega), hz, ← he, ← hgg, hk]
           · cbv
             subst hA
             simp [-List.getD_eq_getElem?_getD, std_add, std_sub, std_mul, std_quo, std_rem, std_band, std_bor, std_bxor, std_shl, std_shr, std_eq, std_ne, std_lt, std_le, std_conv, std_not, std_beq, std_bne, std_ite, std_want, std_and2, std_sadd, std_seq, std_sne, std_slt, std_sle, std_sgt, std_sge, std_slen, std_sget, std_scut, std_ofNat, std_toNat, std_nsub, std_nadd, std_lenOf, std_nz, std_nneg, std_inb, std_upto, std_slt63, std_grow, std_imp, std_impN, std_tr, std_tb, std_ti, std_ts, std_tn, std_tp, std_nmin, std_makes, std_room, std_zeros, std_nilq, std_notq, std_eqi, std_eqn, std_eqb, std_eqs, std_eqv, std_cat, std_lst, std_rset, std_rcopy, std_shift, std_eqr, std_strOf, std_bytesOf, std_isB, std_zOf, zOf_int, std_isI, isI_int, std_getL, std_nmul, std_sOf, sOf_str, std_isS, isS_str, std_fadd, std_fsub, std_fav, std_fsv, std_feq, std_fne, std_flt, std_fle, std_fgt, std_fge, std_fOf, std_fTo, std_fTv]
             exact w_succ' hi' (by omega))
        | trace_state
    · have hie : i = L.length := by omega
      rw [hie, List.take_length, hl, List.take_length] at hz
      cbv
      repeat' (first | with_reducible exact True.intro | with_reducible exact dr_ok hA (by kernel_rfl) | with_reducible refine And.intro ?_ ?_ | (intro hc; cbv))
      all_goals first
        | (exfalso; clear hz; subst hA; simp [-List.getD_eq_getElem?_getD, std_add, std_sub, std_mul, std_quo, std_rem, std_band, std_bor, std_bxor, std_shl, std_shr, std_eq, std_ne, std_lt, std_le, std_conv, std_not, std_beq, std_bne, std_ite, std_want, std_and2, std_sadd, std_seq, std_sne, std_slt, std_sle, std_sgt, std_sge, std_slen, std_sget, std_scut, std_ofNat, std_toNat, std_nsub, std_nadd, std_lenOf, std_nz, std_nneg, std_inb, std_upto, std_slt63, std_grow, std_imp, std_impN, std_tr, std_tb, std_ti, std_ts, std_tn, std_tp, std_nmin, std_makes, std_room, std_zeros, std_nilq, std_notq, std_eqi, std_eqn, std_eqb, std_eqs, std_eqv, std_cat, std_lst, std_rset, std_rcopy, std_shift, std_eqr, std_strOf, std_bytesOf, std_isB, std_zOf, zOf_int, std_isI, isI_int, std_getL, std_nmul, std_sOf, sOf_str, std_isS, isS_str, std_fadd, std_fsub, std_fav, std_fsv, std_feq, std_fne, std_flt, std_fle, std_fgt, std_fge, std_fOf, std_fTo, std_fTv] at hc; omega)
        | (exfalso; clear hz; subst hA; rename_i q; simp [-List.getD_eq_getElem?_getD, std_add, std_sub, std_mul, std_quo, std_rem, std_band, std_bor, std_bxor, std_shl, std_shr, std_eq, std_ne, std_lt, std_le, std_conv, std_not, std_beq, std_bne, std_ite, std_want, std_and2, std_sadd, std_seq, std_sne, std_slt, std_sle, std_sgt, std_sge, std_slen, std_sget, std_scut, std_ofNat, std_toNat, std_nsub, std_nadd, std_lenOf, std_nz, std_nneg, std_inb, std_upto, std_slt63, std_grow, std_imp, std_impN, std_tr, std_tb, std_ti, std_ts, std_tn, std_tp, std_nmin, std_makes, std_room, std_zeros, std_nilq, std_notq, std_eqi, std_eqn, std_eqb, std_eqs, std_eqv, std_cat, std_lst, std_rset, std_rcopy, std_shift, std_eqr, std_strOf, std_bytesOf, std_isB, std_zOf, zOf_int, std_isI, isI_int, std_getL, std_nmul, std_sOf, sOf_str, std_isS, isS_str, std_fadd, std_fsub, std_fav, std_fsv, std_feq, std_fne, std_flt, std_fle, std_fgt, std_fge, std_fOf, std_fTo, std_fTv] at q; omega)
        | (subst hA
           simp [-List.getD_eq_getElem?_getD, std_add, std_sub, std_mul, std_quo, std_rem, std_band, std_bor, std_bxor, std_shl, std_shr, std_eq, std_ne, std_lt, std_le, std_conv, std_not, std_beq, std_bne, std_ite, std_want, std_and2, std_sadd, std_seq, std_sne, std_slt, std_sle, std_sgt, std_sge, std_slen, std_sget, std_scut, std_ofNat, std_toNat, std_nsub, std_nadd, std_lenOf, std_nz, std_nneg, std_inb, std_upto, std_slt63, std_grow, std_imp, std_impN, std_tr, std_tb, std_ti, std_ts, std_tn, std_tp, std_nmin, std_makes, std_room, std_zeros, std_nilq, std_notq, std_eqi, std_eqn, std_eqb, std_eqs, std_eqv, std_cat, std_lst, std_rset, std_rcopy, std_shift, std_eqr, std_strOf, std_bytesOf, std_isB, std_zOf, zOf_int, std_isI, isI_int, std_getL, std_nmul, std_sOf, sOf_str, std_isS, isS_str, std_fadd, std_fsub, std_fav, std_fsv, std_feq, std_fne, std_flt, std_fle, std_fgt, std_fge, std_fOf, std_fTo, std_fTv, hz] at *)
        | trace_state
noncomputable def c_lSame : Ct := fun A args => match args with
  | [.agg [.slc n 4 f], .agg [.slc m 4 g]] => some (some (A.tp fun _ => (isRow eH H0 4 n f ∧ isRow eH H0 4 m g) ∧ n ≤ 1000000), .bool (A.tb fun _ => decide (lstOf eH H0 4 n f = lstOf eH H0 4 m g)))
  | _ => none
noncomputable def gyS : Ar → Pu := addC 66 c_lSame (gy7)
theorem gyS_ok : PuOk Tryd.prog gl0 (gyS std) := by
  refine addC_ok (gy7_ok) ⟨_, Tryd.func66, rfl, by decide⟩ ?_
  · intro args p r h hp
    unfold c_lSame at h
    split at h <;> cases h
    exact good_sv (good_lSame _ _ (by rw [lstOf_length hp.1.1]; exact hp.2)) ⟨⟨_, rfl, hp.1.1.sv, trivial⟩, ⟨_, rfl, hp.1.2.sv, trivial⟩, trivial⟩
end Go.Vd

set_option linter.unusedVariables false
set_option linter.unusedSimpArgs false
set_option maxRecDepth 100000
set_option maxHeartbeats 8000000
namespace Go.Vd
open Go.Proofs
noncomputable def c_lShort9 : Ct := fun A args => match args with
  | [.agg [.slc n 4 f]] => some (some (A.tp fun _ => isRow eH H0 4 n f ∧ n ≤ 9223372036854775807), .bool (A.tb fun _ => shL (lstOf eH H0 4 n f)))
  | _ => none
noncomputable def c_lSame9 : Ct := fun A args => match args with
  | [.agg [.slc n 4 f], .agg [.slc m 4 g]] => some (some (A.tp fun _ => (isRow eH H0 4 n f ∧ isRow eH H0 4 m g) ∧ n ≤ 1000000), .bool (A.tb fun _ => decide (lstOf eH H0 4 n f = lstOf eH H0 4 m g)))
  | _ => none
noncomputable def c_leAwake : Ct := fun A args => match args with
  | [] => some (none, .bool true)
  | _ => none
noncomputable def gy9 : Ar → Pu := addC 58 c_lShort9 (addC 66 c_lSame9 (addC 57 c_leAwake (gy8)))
theorem gy9_ok : PuOk Tryd.prog gl0 (gy9 std) := by
  refine addC_ok (addC_ok (addC_ok (gy8_ok) ⟨_, Tryd.func57, rfl, by decide⟩ ?_) ⟨_, Tryd.func66, rfl, by decide⟩ ?_) ⟨_, Tryd.func58, rfl, by decide⟩ ?_
  · intro args p r h hp
    unfold c_leAwake at h
    split at h <;> cases h
    exact good_leAwake
  · intro args p r h hp
    unfold c_lSame9 at h
    split at h <;> cases h
    exact good_sv (good_lSame _ _ (by rw [lstOf_length hp.1.1]; exact hp.2)) ⟨⟨_, rfl, hp.1.1.sv, trivial⟩, ⟨_, rfl, hp.1.2.sv, trivial⟩, trivial⟩
  · intro args p r h hp
    unfold c_lShort9 at h
    split at h <;> cases h
    exact good_sv (good_lShort _ (by rw [lstOf_length hp.1]; exact hp.2)) ⟨⟨_, rfl, hp.1.sv, trivial⟩, trivial⟩
theorem lgL_len (L : List Hld) (k a s : Int) (p r c : List UInt8) (ok : Bool) : (lgL L k a s p r c ok).length ≤ L.length + 1 := by
  have h1 : ∀ e, (opnH L e).length ≤ L.length + 1 := fun e => by
    unfold opnH
    split
    · omega
    · rw [insH_len]; omega
  unfold lgL doL
  split
  · split
    · split
      · omega
      · exact h1 _
    · split
      · split
        · rw [gvH_len]; omega
        · exact h1 _
      · omega
  · omega
theorem shL_len {L : List Hld} (h : shL L = true) : L.length ≤ 300 := (shL_iff.1 h).1
attribute [local irreducible] vc
theorem good_LedgerTwice (L : List Hld) (k a s : Int) (p r c : List UInt8) (o1 o2 : Bool) (hL : L.length ≤ 9223372036854775807) : GoodP Tryd.prog gl0 14 [sL std fun _ => L, .agg [.int .i64 k, .str p, .int .u64 a, .int .u32 s, .str r, .str c], .bool o1, .bool o2] (.bool true) := by
  refine fn_sound' (T := seatT) (G := gy9) (X := noX) seatT_ok gy9_ok noX_ok noI_ok mixed Tryd.func14 (.one) (fun A => [sL A fun _ => L, .agg [.int .i64 k, .str p, .int .u64 a, .int .u32 s, .str r, .str c], .bool o1, .bool o2]) (fun A => .bool true) fun A hA => ?_
  cbv
  repeat' (first | with_reducible exact True.intro | with_reducible exact dr_ok hA (by kernel_rfl) | with_reducible refine And.intro ?_ ?_ | (intro hc; cbv))
  all_goals (subst hA; try simp only [std_add, std_sub, std_mul, std_quo, std_rem, std_band, std_bor, std_bxor, std_shl, std_shr, std_eq, std_ne, std_lt, std_le, std_conv, std_not, std_beq, std_bne, std_ite, std_want, std_and2, std_sadd, std_seq, std_sne, std_slt, std_sle, std_sgt, std_sge, std_slen, std_sget, std_scut, std_ofNat, std_toNat, std_nsub, std_nadd, std_lenOf, std_nz, std_nneg, std_inb, std_upto, std_slt63, std_grow, std_imp, std_impN, std_tr, std_tb, std_ti, std_ts, std_tn, std_tp, std_nmin, std_makes, std_room, std_zeros, std_nilq, std_notq, std_eqi, std_eqn, std_eqb, std_eqs, std_eqv, std_cat, std_lst, std_rset, std_rcopy, std_shift, std_eqr, std_strOf, std_bytesOf, std_isB, std_zOf, zOf_int, std_isI, isI_int, std_getL, std_nmul, std_sOf, sOf_str, std_isS, isS_str, std_fadd, std_fsub, std_fav, std_fsv, std_feq, std_fne, std_flt, std_fle, std_fgt, std_fge, std_fOf, std_fTo, std_fTv, lstOf_V, isRow_V] at *)
  all_goals first
    | exact ⟨trivial, hL⟩
    | (exfalso; revert hc; decide)
    | exact id
    | (intro h; rw [h]; rfl)
    | (intro h; exact ⟨h, h⟩)
    | (intro h; exact ⟨h, trivial, hL⟩)
    | skip
  all_goals first
    | (have hv : shL L = true ∧ p.length ≤ 300 ∧ r.length ≤ 300 ∧ c.length ≤ 300 := by
         have h : (bif !shL L then true else !decide (p.length ≤ 300 ∧ r.length ≤ 300 ∧ c.length ≤ 300)) = false := by assumption
         cases hs : shL L <;> rw [hs] at h
         · cases h
         · exact ⟨rfl, by simpa using h⟩
       have hl := shL_len hv.1
       have hl2 := lgL_len L k a s p r c o1
       have hl3 := lgL_len (lgL L k a s p r c o1) k a s p r c o2
       obtain ⟨f1, f2, f3⟩ := le_twice L k a s p r c o1 o2
       first
         | exact ⟨⟨trivial, by omega⟩, by omega, by omega, by omega⟩
         | (intro h; exact ⟨h, ⟨trivial, trivial⟩, by omega⟩)
         | exact ⟨⟨trivial, trivial⟩, by omega⟩
         | (by_cases hE : lgE L k a s p r c = 0
            · have f4 := f3 hE
              simp [f1, f2, f4, hE]
              try omega
            · simp [f1, f2, hE]
              try omega)
         | trace_state)
    | trace_state
end Go.Vd

set_option linter.unusedVariables false
set_option linter.unusedSimpArgs false
set_option maxRecDepth 100000
set_option maxHeartbeats 8000000
namespace Go.Vd
open Go.Proofs
attribute [local irreducible] vc
theorem good_rRight (n : Int) (s : List UInt8) (hs : s.length ≤ 1000000) : GoodP Tryd.prog gl0 74 [.int .i64 n, .str s] (.bool (std.tb fun _ => rr n s)) := by
  refine fn_sound' (T := seatT) (G := gy6) (X := noX) seatT_ok gy6_ok noX_ok noI_ok mixed Tryd.func74 (.one) (fun A => [.int .i64 n, .str s]) (fun A => .bool (A.tb fun _ => rr n s)) fun A hA => ?_
  cbv
  repeat' (first | with_reducible exact True.intro | with_reducible exact dr_ok hA (by kernel_rfl) | with_reducible refine And.intro ?_ ?_ | (intro hc; cbv))
  all_goals (subst hA; simp [std_add, std_sub, std_mul, std_quo, std_rem, std_band, std_bor, std_bxor, std_shl, std_shr, std_eq, std_ne, std_lt, std_le, std_conv, std_not, std_beq, std_bne, std_ite, std_want, std_and2, std_sadd, std_seq, std_sne, std_slt, std_sle, std_sgt, std_sge, std_slen, std_sget, std_scut, std_ofNat, std_toNat, std_nsub, std_nadd, std_lenOf, std_nz, std_nneg, std_inb, std_upto, std_slt63, std_grow, std_imp, std_impN, std_tr, std_tb, std_ti, std_ts, std_tn, std_tp, std_nmin, std_makes, std_room, std_zeros, std_nilq, std_notq, std_eqi, std_eqn, std_eqb, std_eqs, std_eqv, std_cat, std_lst, std_rset, std_rcopy, std_shift, std_eqr, std_strOf, std_bytesOf, std_isB, std_zOf, zOf_int, std_isI, isI_int, std_getL, std_nmul, std_sOf, sOf_str, std_isS, isS_str, std_fadd, std_fsub, std_fav, std_fsv, std_feq, std_fne, std_flt, std_fle, std_fgt, std_fge, std_fOf, std_fTo, std_fTv] at *)
  all_goals first
    | omega
    | exact hs
    | exact fun h1 h2 h3 => ⟨⟨⟨h1, h2⟩, h3⟩, fun h => ⟨⟨⟨h1, h2⟩, h3⟩, h⟩⟩
    | (rw [rr, if_pos ⟨hc.1.1.1, hc.1.1.2, hc.1.2, hc.2⟩]; done)
    | (rw [rr, if_neg (fun h => by rcases hc with ((hc | hc) | hc) | hc; (rw [hc] at h; exact Bool.noConfusion h.1); (exact h.2.1 hc); (have := h.2.2.1; omega); (have := h.2.2.2 hc.1; omega))]; done)
    | trace_state
noncomputable def c_rRight : Ct := fun A args => match args with
  | [.int .i64 n, .str r] => some (some (A.tp fun _ => r.length ≤ 1000000), .bool (A.tb fun _ => rr n r))
  | _ => none
noncomputable def gz1 : Ar → Pu := addC 74 c_rRight (gy6)
theorem gz1_ok : PuOk Tryd.prog gl0 (gz1 std) := by
  refine addC_ok (gy6_ok) ⟨_, Tryd.func74, rfl, by decide⟩ ?_
  · intro args p r h hp
    unfold c_rRight at h
    split at h <;> cases h
    exact good_rRight _ _ hp
theorem good_rkRight (s : Int) (r : List UInt8) (hr : r.length ≤ 1000000) : GoodP Tryd.prog gl0 115 [sKey std s r] (.bool (std.tb fun _ => keyOk s r)) := by
  refine fn_sound' (T := seatT) (G := gz1) (X := noX) seatT_ok gz1_ok noX_ok noI_ok mixed Tryd.func115 (.one) (fun A => [sKey A s r]) (fun A => .bool (A.tb fun _ => keyOk s r)) fun A hA => ?_
  cbv
  repeat' (first | with_reducible exact True.intro | with_reducible exact dr_ok hA (by kernel_rfl) | with_reducible refine And.intro ?_ ?_ | (intro hc; cbv))
  all_goals (subst hA; simp [std_add, std_sub, std_mul, std_quo, std_rem, std_band, std_bor, std_bxor, std_shl, std_shr, std_eq, std_ne, std_lt, std_le, std_conv, std_not, std_beq, std_bne, std_ite, std_want, std_and2, std_sadd, std_seq, std_sne, std_slt, std_sle, std_sgt, std_sge, std_slen, std_sget, std_scut, std_ofNat, std_toNat, std_nsub, std_nadd, std_lenOf, std_nz, std_nneg, std_inb, std_upto, std_slt63, std_grow, std_imp, std_impN, std_tr, std_tb, std_ti, std_ts, std_tn, std_tp, std_nmin, std_makes, std_room, std_zeros, std_nilq, std_notq, std_eqi, std_eqn, std_eqb, std_eqs, std_eqv, std_cat, std_lst, std_rset, std_rcopy, std_shift, std_eqr, std_strOf, std_bytesOf, std_isB, std_zOf, zOf_int, std_isI, isI_int, std_getL, std_nmul, std_sOf, sOf_str, std_isS, isS_str, std_fadd, std_fsub, std_fav, std_fsv, std_feq, std_fne, std_flt, std_fle, std_fgt, std_fge, std_fOf, std_fTo, std_fTv] at *)
  all_goals first
    | exact fun h => ⟨h, hr⟩
    | exact hr
    | (rw [rr_37]; unfold keyOk; (first | rfl | (rw [Bool.eq_iff_iff]; simp; done)))
    | trace_state
noncomputable def c_rkRight : Ct := fun A args => match args with
  | [.agg [.int .u32 s, .str r]] => some (some (A.tp fun _ => r.length ≤ 1000000), .bool (A.tb fun _ => keyOk s r))
  | _ => none
theorem good_rAsks (k : Int) : GoodP Tryd.prog gl0 39 [.int .i64 k] (.bool (std.tb fun _ => dAsks k)) := by
  refine fn_sound' (T := seatT) (G := noC) (X := noX) seatT_ok noC_ok noX_ok noI_ok mixed Tryd.func39 (.one) (fun A => [.int .i64 k]) (fun A => .bool (A.tb fun _ => dAsks k)) fun A hA => ?_
  cbv
  repeat' (first | with_reducible exact True.intro | with_reducible exact dr_ok hA (by kernel_rfl) | with_reducible refine And.intro ?_ ?_ | (intro hc; cbv))
  all_goals (subst hA; simp [std_add, std_sub, std_mul, std_quo, std_rem, std_band, std_bor, std_bxor, std_shl, std_shr, std_eq, std_ne, std_lt, std_le, std_conv, std_not, std_beq, std_bne, std_ite, std_want, std_and2, std_sadd, std_seq, std_sne, std_slt, std_sle, std_sgt, std_sge, std_slen, std_sget, std_scut, std_ofNat, std_toNat, std_nsub, std_nadd, std_lenOf, std_nz, std_nneg, std_inb, std_upto, std_slt63, std_grow, std_imp, std_impN, std_tr, std_tb, std_ti, std_ts, std_tn, std_tp, std_nmin, std_makes, std_room, std_zeros, std_nilq, std_notq, std_eqi, std_eqn, std_eqb, std_eqs, std_eqv, std_cat, std_lst, std_rset, std_rcopy, std_shift, std_eqr, std_strOf, std_bytesOf, std_isB, std_zOf, zOf_int, std_isI, isI_int, std_getL, std_nmul, std_sOf, sOf_str, std_isS, isS_str, std_fadd, std_fsub, std_fav, std_fsv, std_feq, std_fne, std_flt, std_fle, std_fgt, std_fge, std_fOf, std_fTo, std_fTv] at *)
  all_goals first
    | (unfold dAsks; rw [Bool.eq_iff_iff]; simp; done)
    | (unfold dAsks; rw [Bool.eq_iff_iff]; simp; omega)
    | trace_state
noncomputable def c_rAsks : Ct := fun A args => match args with
  | [.int .i64 k] => some (none, .bool (A.tb fun _ => dAsks k))
  | _ => none
noncomputable def gz2 : Ar → Pu := addC 115 c_rkRight (addC 39 c_rAsks (gz1))
theorem gz2_ok : PuOk Tryd.prog gl0 (gz2 std) := by
  refine addC_ok (addC_ok (gz1_ok) ⟨_, Tryd.func39, rfl, by decide⟩ ?_) ⟨_, Tryd.func115, rfl, by decide⟩ ?_
  · intro args p r h hp
    unfold c_rAsks at h
    split at h <;> cases h
    exact good_rAsks _
  · intro args p r h hp
    unfold c_rkRight at h
    split at h <;> cases h
    exact good_rkRight _ _ hp
theorem io1 {a b : Prop} : (a → ¬b) → ¬a ∨ ¬b := fun h => by
  by_cases ha : a
  · exact .inr (h ha)
  · exact .inl ha
theorem io2 {a b c d : Prop} : (a → ¬b) → (c → ¬d) → (¬a ∨ ¬b) ∧ (¬c ∨ ¬d) := fun h h' => ⟨io1 h, io1 h'⟩
theorem io3 {a b c d e f : Prop} : (a → ¬b) → (c → ¬d) → (e → ¬f) → ((¬a ∨ ¬b) ∧ (¬c ∨ ¬d)) ∧ (¬e ∨ ¬f) := fun h h' h2 => ⟨⟨io1 h, io1 h'⟩, io1 h2⟩
theorem good_r6Right (k a s : Int) (p r c : List UInt8) (hp : p.length ≤ 100000) (hr : r.length ≤ 1000000) (hcc : c.length ≤ 1000000) : GoodP Tryd.prog gl0 32 [.agg [.int .i64 k, .str p, .int .u64 a, .int .u32 s, .str r, .str c]] (.bool (std.tb fun _ => dR k a s p r c)) := by
  refine fn_sound' (T := seatT) (G := gz2) (X := noX) seatT_ok gz2_ok noX_ok noI_ok mixed Tryd.func32 (.one) (fun A => [.agg [.int .i64 k, .str p, .int .u64 a, .int .u32 s, .str r, .str c]]) (fun A => .bool (A.tb fun _ => dR k a s p r c)) fun A hA => ?_
  cbv
  repeat' (first | with_reducible exact True.intro | with_reducible exact dr_ok hA (by kernel_rfl) | with_reducible refine And.intro ?_ ?_ | (intro hc; cbv))
  all_goals (subst hA; try simp [-List.getD_eq_getElem?_getD, std_add, std_sub, std_mul, std_quo, std_rem, std_band, std_bor, std_bxor, std_shl, std_shr, std_eq, std_ne, std_lt, std_le, std_conv, std_not, std_beq, std_bne, std_ite, std_want, std_and2, std_sadd, std_seq, std_sne, std_slt, std_sle, std_sgt, std_sge, std_slen, std_sget, std_scut, std_ofNat, std_toNat, std_nsub, std_nadd, std_lenOf, std_nz, std_nneg, std_inb, std_upto, std_slt63, std_grow, std_imp, std_impN, std_tr, std_tb, std_ti, std_ts, std_tn, std_tp, std_nmin, std_makes, std_room, std_zeros, std_nilq, std_notq, std_eqi, std_eqn, std_eqb, std_eqs, std_eqv, std_cat, std_lst, std_rset, std_rcopy, std_shift, std_eqr, std_strOf, std_bytesOf, std_isB, std_zOf, zOf_int, std_isI, isI_int, std_getL, std_nmul, std_sOf, sOf_str, std_isS, isS_str, std_fadd, std_fsub, std_fav, std_fsv, std_feq, std_fne, std_flt, std_fle, std_fgt, std_fge, std_fOf, std_fTo, std_fTv] at *)
  all_goals first
    | omega
    | (intro h1 h2 h3; exact ⟨⟨⟨h1, h2⟩, h3⟩, hr⟩)
    | (unfold dR
       rcases hc with (hc | hc) | hc
       · rw [decide_eq_false (p := 1 ≤ k ∧ k ≤ 7) (by omega)]; rfl
       · rw [decide_eq_false (p := s ≤ 999999) (by omega)]; simp
       · rw [hc]; simp)
    | (have hd : dAsks k = true := by assumption
       have h20 : decide ((p.length : Int) < 20) = decide ((p.length : Int) ≤ 19) := by rw [Bool.eq_iff_iff]; simp; omega
       rw [h20]
       unfold dR
       rw [decide_eq_true hc.1.1, decide_eq_true hc.1.2, hc.2, if_pos hd]
       simp only [Bool.true_and, Bool.and_assoc]
       cases c <;> rfl)
    | (have hd : dAsks k = false := by assumption
       unfold dR
       rw [decide_eq_true hc.1.1, decide_eq_true hc.1.2, hc.2, if_neg (by rw [hd]; simp)]
       simp only [Bool.true_and, Bool.and_assoc]
       cases p <;> rfl)
    | trace_state
theorem good_rkOrder (s t : Int) (r q : List UInt8) : GoodP Tryd.prog gl0 117 [sKey std s r, sKey std t q] (.int .i64 (std.ti fun _ => ordK s r t q)) := by
  refine fn_sound' (T := seatT) (G := noC) (X := noX) seatT_ok noC_ok noX_ok noI_ok mixed Tryd.func117 (.one) (fun A => [sKey A s r, sKey A t q]) (fun A => .int .i64 (A.ti fun _ => ordK s r t q)) fun A hA => ?_
  cbv
  repeat' (first | with_reducible exact True.intro | with_reducible exact dr_ok hA (by kernel_rfl) | with_reducible refine And.intro ?_ ?_ | (intro hc; cbv))
  all_goals (subst hA; simp [std_add, std_sub, std_mul, std_quo, std_rem, std_band, std_bor, std_bxor, std_shl, std_shr, std_eq, std_ne, std_lt, std_le, std_conv, std_not, std_beq, std_bne, std_ite, std_want, std_and2, std_sadd, std_seq, std_sne, std_slt, std_sle, std_sgt, std_sge, std_slen, std_sget, std_scut, std_ofNat, std_toNat, std_nsub, std_nadd, std_lenOf, std_nz, std_nneg, std_inb, std_upto, std_slt63, std_grow, std_imp, std_impN, std_tr, std_tb, std_ti, std_ts, std_tn, std_tp, std_nmin, std_makes, std_room, std_zeros, std_nilq, std_notq, std_eqi, std_eqn, std_eqb, std_eqs, std_eqv, std_cat, std_lst, std_rset, std_rcopy, std_shift, std_eqr, std_strOf, std_bytesOf, std_isB, std_zOf, zOf_int, std_isI, isI_int, std_getL, std_nmul, std_sOf, sOf_str, std_isS, isS_str, std_fadd, std_fsub, std_fav, std_fsv, std_feq, std_fne, std_flt, std_fle, std_fgt, std_fge, std_fOf, std_fTo, std_fTv, bytesLess_eq] at *)
  all_goals first
    | omega
    | (rw [ordK_eq, if_pos (by assumption)]; done)
    | (rw [ordK_eq, if_neg (fun h => (by assumption : s = t → ¬r = q) h.1 h.2), if_pos hc]; done)
    | (rw [ordK_eq, if_neg (fun h => (by assumption : s = t → ¬r = q) h.1 h.2), if_pos (by rcases Int.lt_or_le s t with h | h; (exact .inl h); exact .inr (hc h))]; done)
    | (rw [ordK_eq, if_neg (fun h => (by assumption : s = t → ¬r = q) h.1 h.2), if_neg (by rintro (h | h); (exact absurd h (by omega)); exact hc.2 h.1 h.2)]; done)
    | trace_state
noncomputable def c_rkOrder : Ct := fun A args => match args with
  | [.agg [.int .u32 s, .str r], .agg [.int .u32 t, .str q]] => some (none, .int .i64 (A.ti fun _ => ordK s r t q))
  | _ => none
noncomputable def c_r6Right : Ct := fun A args => match args with
  | [.agg [.int .i64 k, .str p, .int .u64 a, .int .u32 s, .str r, .str c]] => some (some (A.tp fun _ => p.length ≤ 100000 ∧ r.length ≤ 1000000 ∧ c.length ≤ 1000000), .bool (A.tb fun _ => dR k a s p r c))
  | _ => none
noncomputable def gz3 : Ar → Pu := addC 32 c_r6Right (addC 117 c_rkOrder (gz2))
theorem gz3_ok : PuOk Tryd.prog gl0 (gz3 std) := by
  refine addC_ok (addC_ok (gz2_ok) ⟨_, Tryd.func117, rfl, by decide⟩ ?_) ⟨_, Tryd.func32, rfl, by decide⟩ ?_
  · intro args p r h hp
    unfold c_rkOrder at h
    split at h <;> cases h
    exact good_rkOrder _ _ _ _
  · intro args p r h hp
    unfold c_r6Right at h
    split at h <;> cases h
    exact good_r6Right _ _ _ _ _ _ hp.1 hp.2.1 hp.2.2
theorem ord_m1 {s t : Int} {r q : List UInt8} : ordK s r t q < 0 ↔ ordK s r t q = -1 := by
  rw [ordK_eq]
  split
  · simp
  · split <;> simp
/-- The place of a key's first entry. -/
def plc (L : List Hld) (s : Int) (r : List UInt8) : Int := if has L s r = true then (L.findIdx (kE s r) : Int) else -1
theorem plc_yes {L : List Hld} {s : Int} {r : List UInt8} {i : Nat} (hi : i < L.length) (h0 : ∀ j, j < i → kE s r (L.getD j H0) = false) (h : kE s r (L.getD i H0) = true) : plc L s r = (i : Int) := by
  unfold plc
  rw [if_pos (fnd_yes hi h0 h).2]
  congr 1
  rw [List.findIdx_eq hi]
  refine ⟨by rw [getD_get hi]; exact h, fun j hj => ?_⟩
  rw [getD_get (by omega)]
  exact h0 j hj
theorem plc_no {L : List Hld} {s : Int} {r : List UInt8} (h0 : ∀ j, j < L.length → kE s r (L.getD j H0) = false) : plc L s r = -1 := by
  unfold plc
  rw [if_neg (by rw [(fnd_no h0).2]; simp)]
theorem good_rPlace (L : List Hld) (s : Int) (r : List UInt8) (hL : L.length ≤ 1000000) : GoodP Tryd.prog gl0 60 [sL std fun _ => L, .agg [.int .u32 s, .str r]] (.int .i64 (std.ti fun _ => plc L s r)) := by
  refine fn_sound' (T := seatT) (G := noC) (X := noX) seatT_ok noC_ok noX_ok noI_ok mixed Tryd.func60 (.one) (fun A => [sL A fun _ => L, .agg [.int .u32 s, .str r]]) (fun A => .int .i64 (A.ti fun _ => plc L s r)) fun A hA => ?_
  cbv
  repeat' (first | with_reducible exact True.intro | with_reducible exact dr_ok hA (by kernel_rfl) | with_reducible refine And.intro ?_ ?_ | (intro hc; cbv))
  refine ⟨⟨{i : Nat // i ≤ L.length ∧ ∀ j, j < i → kE s r (L.getD j H0) = false}, fun b i => [(5, .int .i64 (i.1 : Nat))], fun b i => [], fun i => L.length - i.1, true⟩, ⟨⟨0, by omega, by simp⟩, ?_⟩, ?_⟩
  · cbv
    subst hA
    simp [-List.getD_eq_getElem?_getD, std_add, std_sub, std_mul, std_quo, std_rem, std_band, std_bor, std_bxor, std_shl, std_shr, std_eq, std_ne, std_lt, std_le, std_conv, std_not, std_beq, std_bne, std_ite, std_want, std_and2, std_sadd, std_seq, std_sne, std_slt, std_sle, std_sgt, std_sge, std_slen, std_sget, std_scut, std_ofNat, std_toNat, std_nsub, std_nadd, std_lenOf, std_nz, std_nneg, std_inb, std_upto, std_slt63, std_grow, std_imp, std_impN, std_tr, std_tb, std_ti, std_ts, std_tn, std_tp, std_nmin, std_makes, std_room, std_zeros, std_nilq, std_notq, std_eqi, std_eqn, std_eqb, std_eqs, std_eqv, std_cat, std_lst, std_rset, std_rcopy, std_shift, std_eqr, std_strOf, std_bytesOf, std_isB, std_zOf, zOf_int, std_isI, isI_int, std_getL, std_nmul, std_sOf, sOf_str, std_isS, isS_str, std_fadd, std_fsub, std_fav, std_fsv, std_feq, std_fne, std_flt, std_fle, std_fgt, std_fge, std_fOf, std_fTo, std_fTv]
  · rintro ⟨i, hx⟩
    have hi := hx.1
    have hz := hx.2
    obtain ⟨e, he⟩ : ∃ e, e = L.getD i H0 := ⟨_, rfl⟩
    have hg : L.getD i { s := 0, r := [], am := 0, st := 0 } = e := he.symm
    rcases Nat.lt_or_ge i L.length with hlt | hge
    · have hyes := plc_yes (s := s) (r := r) hlt hz
      rw [← he] at hyes
      cbv
      repeat' (first | with_reducible exact True.intro | with_reducible exact dr_ok hA (by kernel_rfl) | with_reducible refine And.intro ?_ ?_ | (intro hc; cbv))
      all_goals first
        | (fail_if_success (refine Exists.intro ?_ ?_)
           clear hz
           subst hA
           simp [-List.getD_eq_getElem?_getD, std_add, std_sub, std_mul, std_quo, std_rem, std_band, std_bor, std_bxor, std_shl, std_shr, std_eq, std_ne, std_lt, std_le, std_conv, std_not, std_beq, std_bne, std_ite, std_want, std_and2, std_sadd, std_seq, std_sne, std_slt, std_sle, std_sgt, std_sge, std_slen, std_sget, std_scut, std_ofNat, std_toNat, std_nsub, std_nadd, std_lenOf, std_nz, std_nneg, std_inb, std_upto, std_slt63, std_grow, std_imp, std_impN, std_tr, std_tb, std_ti, std_ts, std_tn, std_tp, std_nmin, std_makes, std_room, std_zeros, std_nilq, std_notq, std_eqi, std_eqn, std_eqb, std_eqs, std_eqv, std_cat, std_lst, std_rset, std_rcopy, std_shift, std_eqr, std_strOf, std_bytesOf, std_isB, std_zOf, zOf_int, std_isI, isI_int, std_getL, std_nmul, std_sOf, sOf_str, std_isS, isS_str, std_fadd, std_fsub, std_fav, std_fsv, std_feq, std_fne, std_flt, std_fle, std_fgt, std_fge, std_fOf, std_fTo, std_fTv, hg] at *
           first
             | done
             | omega
             | exact ⟨(show (0 : Int) ≤ ((i : Nat) : Int) by omega), (show ((i : Nat) : Int) < ((L.length : Nat) : Int) by omega)⟩
             | exact (hyes (kE_iff.2 hc)).symm
             | trace_state)
        | (obtain ⟨i', hi'⟩ : ∃ i', i' = i + 1 := ⟨_, rfl⟩
           have hst : kE s r e = false := by
             clear hz hyes
             subst hA
             simp [-List.getD_eq_getElem?_getD, std_add, std_sub, std_mul, std_quo, std_rem, std_band, std_bor, std_bxor, std_shl, std_shr, std_eq, std_ne, std_lt, std_le, std_conv, std_not, std_beq, std_bne, std_ite, std_want, std_and2, std_sadd, std_seq, std_sne, std_slt, std_sle, std_sgt, std_sge, std_slen, std_sget, std_scut, std_ofNat, std_toNat, std_nsub, std_nadd, std_lenOf, std_nz, std_nneg, std_inb, std_upto, std_slt63, std_grow, std_imp, std_impN, std_tr, std_tb, std_ti, std_ts, std_tn, std_tp, std_nmin, std_makes, std_room, std_zeros, std_nilq, std_notq, std_eqi, std_eqn, std_eqb, std_eqs, std_eqv, std_cat, std_lst, std_rset, std_rcopy, std_shift, std_eqr, std_strOf, std_bytesOf, std_isB, std_zOf, zOf_int, std_isI, isI_int, std_getL, std_nmul, std_sOf, sOf_str, std_isS, isS_str, std_fadd, std_fsub, std_fav, std_fsv, std_feq, std_fne, std_flt, std_fle, std_fgt, std_fge, std_fOf, std_fTo, std_fTv, hg] at hc
             exact kE_no fun h => hc h.1 h.2
           refine ⟨⟨i', by omega, fun j hj => ?_⟩, ?_, show L.length - i' < L.length - i by omega⟩
           · rcases Nat.lt_or_ge j i with h | h
             · exact hz j h
             · obtain rfl : j = i := by omega
               rw [← he]; exact hst
           · cbv
             subst hA
             simp [-List.getD_eq_getElem?_getD, std_add, std_sub, std_mul, std_quo, std_rem, std_band, std_bor, std_bxor, std_shl, std_shr, std_eq, std_ne, std_lt, std_le, std_conv, std_not, std_beq, std_bne, std_ite, std_want, std_and2, std_sadd, std_seq, std_sne, std_slt, std_sle, std_sgt, std_sge, std_slen, std_sget, std_scut, std_ofNat, std_toNat, std_nsub, std_nadd, std_lenOf, std_nz, std_nneg, std_inb, std_upto, std_slt63, std_grow, std_imp, std_impN, std_tr, std_tb, std_ti, std_ts, std_tn, std_tp, std_nmin, std_makes, std_room, std_zeros, std_nilq, std_notq, std_eqi, std_eqn, std_eqb, std_eqs, std_eqv, std_cat, std_lst, std_rset, std_rcopy, std_shift, std_eqr, std_strOf, std_bytesOf, std_isB, std_zOf, zOf_int, std_isI, isI_int, std_getL, std_nmul, std_sOf, sOf_str, std_isS, isS_str, std_fadd, std_fsub, std_fav, std_fsv, std_feq, std_fne, std_flt, std_fle, std_fgt, std_fge, std_fOf, std_fTo, std_fTv]
             exact w_succ' hi' (by omega))
        | trace_state
    · have hie : i = L.length := by omega
      have hall := plc_no (L := L) (s := s) (r := r) fun j hj => hz j (by omega)
      cbv
      repeat' (first | with_reducible exact True.intro | with_reducible exact dr_ok hA (by kernel_rfl) | with_reducible refine And.intro ?_ ?_ | (intro hc; cbv))
      all_goals first
        | (exfalso; clear hz; subst hA; simp [-List.getD_eq_getElem?_getD, std_add, std_sub, std_mul, std_quo, std_rem, std_band, std_bor, std_bxor, std_shl, std_shr, std_eq, std_ne, std_lt, std_le, std_conv, std_not, std_beq, std_bne, std_ite, std_want, std_and2, std_sadd, std_seq, std_sne, std_slt, std_sle, std_sgt, std_sge, std_slen, std_sget, std_scut, std_ofNat, std_toNat, std_nsub, std_nadd, std_lenOf, std_nz, std_nneg, std_inb, std_upto, std_slt63, std_grow, std_imp, std_impN, std_tr, std_tb, std_ti, std_ts, std_tn, std_tp, std_nmin, std_makes, std_room, std_zeros, std_nilq, std_notq, std_eqi, std_eqn, std_eqb, std_eqs, std_eqv, std_cat, std_lst, std_rset, std_rcopy, std_shift, std_eqr, std_strOf, std_bytesOf, std_isB, std_zOf, zOf_int, std_isI, isI_int, std_getL, std_nmul, std_sOf, sOf_str, std_isS, isS_str, std_fadd, std_fsub, std_fav, std_fsv, std_feq, std_fne, std_flt, std_fle, std_fgt, std_fge, std_fOf, std_fTo, std_fTv] at hc; omega)
        | (exfalso; clear hz; subst hA; rename_i q; simp [-List.getD_eq_getElem?_getD, std_add, std_sub, std_mul, std_quo, std_rem, std_band, std_bor, std_bxor, std_shl, std_shr, std_eq, std_ne, std_lt, std_le, std_conv, std_not, std_beq, std_bne, std_ite, std_want, std_and2, std_sadd, std_seq, std_sne, std_slt, std_sle, std_sgt, std_sge, std_slen, std_sget, std_scut, std_ofNat, std_toNat, std_nsub, std_nadd, std_lenOf, std_nz, std_nneg, std_inb, std_upto, std_slt63, std_grow, std_imp, std_impN, std_tr, std_tb, std_ti, std_ts, std_tn, std_tp, std_nmin, std_makes, std_room, std_zeros, std_nilq, std_notq, std_eqi, std_eqn, std_eqb, std_eqs, std_eqv, std_cat, std_lst, std_rset, std_rcopy, std_shift, std_eqr, std_strOf, std_bytesOf, std_isB, std_zOf, zOf_int, std_isI, isI_int, std_getL, std_nmul, std_sOf, sOf_str, std_isS, isS_str, std_fadd, std_fsub, std_fav, std_fsv, std_feq, std_fne, std_flt, std_fle, std_fgt, std_fge, std_fOf, std_fTo, std_fTv] at q; omega)
        | (clear hz
           subst hA
           simp [-List.getD_eq_getElem?_getD, std_add, std_sub, std_mul, std_quo, std_rem, std_band, std_bor, std_bxor, std_shl, std_shr, std_eq, std_ne, std_lt, std_le, std_conv, std_not, std_beq, std_bne, std_ite, std_want, std_and2, std_sadd, std_seq, std_sne, std_slt, std_sle, std_sgt, std_sge, std_slen, std_sget, std_scut, std_ofNat, std_toNat, std_nsub, std_nadd, std_lenOf, std_nz, std_nneg, std_inb, std_upto, std_slt63, std_grow, std_imp, std_impN, std_tr, std_tb, std_ti, std_ts, std_tn, std_tp, std_nmin, std_makes, std_room, std_zeros, std_nilq, std_notq, std_eqi, std_eqn, std_eqb, std_eqs, std_eqv, std_cat, std_lst, std_rset, std_rcopy, std_shift, std_eqr, std_strOf, std_bytesOf, std_isB, std_zOf, zOf_int, std_isI, isI_int, std_getL, std_nmul, std_sOf, sOf_str, std_isS, isS_str, std_fadd, std_fsub, std_fav, std_fsv, std_feq, std_fne, std_flt, std_fle, std_fgt, std_fge, std_fOf, std_fTo, std_fTv, hall] at *)
        | trace_state
noncomputable def c_rPlace : Ct := fun A args => match args with
  | [.agg [.slc n 4 f], .agg [.int .u32 s, .str r]] => some (some (A.tp fun _ => isRow eH H0 4 n f ∧ n ≤ 1000000), .int .i64 (A.ti fun _ => plc (lstOf eH H0 4 n f) s r))
  | _ => none
def hT (e : Hld) : Prop := e.r.length ≤ 1000000
end Go.Vd

set_option linter.unusedVariables false
set_option linter.unusedSimpArgs false
set_option maxRecDepth 100000
set_option maxHeartbeats 8000000
namespace Go.Vd
open Go.Proofs
theorem hR_no {e : Hld} (h : ((keyOk e.s e.r = false ∨ 999999999999 < e.am) ∨ e.st < 1) ∨ 3 < e.st) : hR e = false := by
  rw [Bool.eq_false_iff]
  intro h2
  simp only [hR, Bool.and_eq_true, decide_eq_true_eq] at h2
  rcases h with ((h | h) | h) | h
  · rw [h2.1] at h; cases h
  · omega
  · omega
  · omega
theorem hR_yes {e : Hld} (h : ((keyOk e.s e.r = true ∧ e.am ≤ 999999999999) ∧ 1 ≤ e.st) ∧ e.st ≤ 3) : hR e = true := by
  simp only [hR, Bool.and_eq_true, decide_eq_true_eq]
  exact ⟨h.1.1.1, by omega, h.1.2, h.2⟩
attribute [local irreducible] vc
theorem good_rRightL (L : List Hld) (hL : L.length ≤ 1000000) (hS : ∀ i, hT (L.getD i H0)) : GoodP Tryd.prog gl0 63 [sL std fun _ => L] (.bool (std.tb fun _ => leR L)) := by
  refine fn_sound' (T := seatT) (G := gz3) (X := noX) seatT_ok gz3_ok noX_ok noI_ok mixed Tryd.func63 (.one) (fun A => [sL A fun _ => L]) (fun A => .bool (A.tb fun _ => leR L)) fun A hA => ?_
  cbv
  repeat' (first | with_reducible exact True.intro | with_reducible exact dr_ok hA (by kernel_rfl) | with_reducible refine And.intro ?_ ?_ | (intro hc; cbv))
  refine ⟨⟨{i : Nat // i ≤ L.length ∧ ∀ j, j < i → hR (L.getD j H0) = true ∧ (0 < j → ordH (L.getD (j - 1) H0) (L.getD j H0) < 0)}, fun b i => [(3, .int .i64 (i.1 : Nat))], fun b i => [], fun i => L.length - i.1, true⟩, ⟨⟨0, by omega, by simp⟩, ?_⟩, ?_⟩
  · cbv
    subst hA
    simp [-List.getD_eq_getElem?_getD, std_add, std_sub, std_mul, std_quo, std_rem, std_band, std_bor, std_bxor, std_shl, std_shr, std_eq, std_ne, std_lt, std_le, std_conv, std_not, std_beq, std_bne, std_ite, std_want, std_and2, std_sadd, std_seq, std_sne, std_slt, std_sle, std_sgt, std_sge, std_slen, std_sget, std_scut, std_ofNat, std_toNat, std_nsub, std_nadd, std_lenOf, std_nz, std_nneg, std_inb, std_upto, std_slt63, std_grow, std_imp, std_impN, std_tr, std_tb, std_ti, std_ts, std_tn, std_tp, std_nmin, std_makes, std_room, std_zeros, std_nilq, std_notq, std_eqi, std_eqn, std_eqb, std_eqs, std_eqv, std_cat, std_lst, std_rset, std_rcopy, std_shift, std_eqr, std_strOf, std_bytesOf, std_isB, std_zOf, zOf_int, std_isI, isI_int, std_getL, std_nmul, std_sOf, sOf_str, std_isS, isS_str, std_fadd, std_fsub, std_fav, std_fsv, std_feq, std_fne, std_flt, std_fle, std_fgt, std_fge, std_fOf, std_fTo, std_fTv]
  · rintro ⟨i, hx⟩
    have hi := hx.1
    have hz := hx.2
    have hSi := hS i
    obtain ⟨e, he⟩ : ∃ e, e = L.getD i H0 := ⟨_, rfl⟩
    obtain ⟨q, hq⟩ : ∃ q, q = L.getD (i - 1) H0 := ⟨_, rfl⟩
    have hg : L.getD i { s := 0, r := [], am := 0, st := 0 } = e := he.symm
    have hw : IntKind.i64.wrap ((i : Int) - 1) = (i : Int) - 1 := w64 (by omega)
    have hg2 : L.getD ((i : Int) - 1).toNat { s := 0, r := [], am := 0, st := 0 } = q := by
      rw [hq, show ((i : Int) - 1).toNat = i - 1 by omega]; rfl
    have hg3 : L.getD (i - 1) { s := 0, r := [], am := 0, st := 0 } = q := hq.symm
    have hno := leR_no (L := L) (j := i)
    rw [← he] at hSi hno
    rw [← hq] at hno
    have hm : ordH q e < 0 ↔ ordK q.s q.r e.s e.r = -1 := ord_m1
    rcases Nat.lt_or_ge i L.length with hlt | hge
    · have hno2 := hno hlt
      rw [hm] at hno2
      clear hno
      cbv
      repeat' (first | with_reducible exact True.intro | with_reducible exact dr_ok hA (by kernel_rfl) | with_reducible refine And.intro ?_ ?_ | (intro hc; cbv))
      all_goals first
        | (fail_if_success (refine Exists.intro ?_ ?_)
           clear hz hm
           subst hA
           simp [-List.getD_eq_getElem?_getD, std_add, std_sub, std_mul, std_quo, std_rem, std_band, std_bor, std_bxor, std_shl, std_shr, std_eq, std_ne, std_lt, std_le, std_conv, std_not, std_beq, std_bne, std_ite, std_want, std_and2, std_sadd, std_seq, std_sne, std_slt, std_sle, std_sgt, std_sge, std_slen, std_sget, std_scut, std_ofNat, std_toNat, std_nsub, std_nadd, std_lenOf, std_nz, std_nneg, std_inb, std_upto, std_slt63, std_grow, std_imp, std_impN, std_tr, std_tb, std_ti, std_ts, std_tn, std_tp, std_nmin, std_makes, std_room, std_zeros, std_nilq, std_notq, std_eqi, std_eqn, std_eqb, std_eqs, std_eqv, std_cat, std_lst, std_rset, std_rcopy, std_shift, std_eqr, std_strOf, std_bytesOf, std_isB, std_zOf, zOf_int, std_isI, isI_int, std_getL, std_nmul, std_sOf, sOf_str, std_isS, isS_str, std_fadd, std_fsub, std_fav, std_fsv, std_feq, std_fne, std_flt, std_fle, std_fgt, std_fge, std_fOf, std_fTo, std_fTv, hg, hg2, hg3, hw] at *
           first
             | done
             | omega
             | exact hSi
             | (intros; omega)
             | (intro h1 h2 h3 h4 h5; exact ⟨⟨⟨⟨⟨h1, h2⟩, h3⟩, h4⟩, h5⟩, (show (1 : Int) ≤ ((i : Nat) : Int) by omega), (show ((i : Nat) : Int) - 1 < ((L.length : Nat) : Int) by omega)⟩)
             | (intro h1 h2 h3 h4; exact ⟨⟨⟨⟨h1, h2⟩, h3⟩, h4⟩, fun h5 => ⟨⟨⟨⟨h1, h2⟩, h3⟩, h4⟩, h5⟩⟩)
             | exact hno2 (by rcases hc with h | h; exact .inl (hR_no h); exact .inr h)
             | exact hno2 (by rcases hc with h | h; exact .inl h; exact .inr h)
             | exact hno2 hc
             | trace_state)
        | (obtain ⟨i', hi'⟩ : ∃ i', i' = i + 1 := ⟨_, rfl⟩
           have hst : hR e = true ∧ (0 < i → ordH q e < 0) := by
             rw [hm]
             clear hm hno2 hz
             subst hA
             simp [-List.getD_eq_getElem?_getD, std_add, std_sub, std_mul, std_quo, std_rem, std_band, std_bor, std_bxor, std_shl, std_shr, std_eq, std_ne, std_lt, std_le, std_conv, std_not, std_beq, std_bne, std_ite, std_want, std_and2, std_sadd, std_seq, std_sne, std_slt, std_sle, std_sgt, std_sge, std_slen, std_sget, std_scut, std_ofNat, std_toNat, std_nsub, std_nadd, std_lenOf, std_nz, std_nneg, std_inb, std_upto, std_slt63, std_grow, std_imp, std_impN, std_tr, std_tb, std_ti, std_ts, std_tn, std_tp, std_nmin, std_makes, std_room, std_zeros, std_nilq, std_notq, std_eqi, std_eqn, std_eqb, std_eqs, std_eqv, std_cat, std_lst, std_rset, std_rcopy, std_shift, std_eqr, std_strOf, std_bytesOf, std_isB, std_zOf, zOf_int, std_isI, isI_int, std_getL, std_nmul, std_sOf, sOf_str, std_isS, isS_str, std_fadd, std_fsub, std_fav, std_fsv, std_feq, std_fne, std_flt, std_fle, std_fgt, std_fge, std_fOf, std_fTo, std_fTv, hg, hg2, hg3, hw] at hc
             exact ⟨hR_yes hc.1, hc.2⟩
           refine ⟨⟨i', by omega, fun j hj => ?_⟩, ?_, show L.length - i' < L.length - i by omega⟩
           · rcases Nat.lt_or_ge j i with h | h
             · exact hz j h
             · obtain rfl : j = i := by omega
               rw [← he, ← hq]; exact hst
           · cbv
             subst hA
             simp [-List.getD_eq_getElem?_getD, std_add, std_sub, std_mul, std_quo, std_rem, std_band, std_bor, std_bxor, std_shl, std_shr, std_eq, std_ne, std_lt, std_le, std_conv, std_not, std_beq, std_bne, std_ite, std_want, std_and2, std_sadd, std_seq, std_sne, std_slt, std_sle, std_sgt, std_sge, std_slen, std_sget, std_scut, std_ofNat, std_toNat, std_nsub, std_nadd, std_lenOf, std_nz, std_nneg, std_inb, std_upto, std_slt63, std_grow, std_imp, std_impN, std_tr, std_tb, std_ti, std_ts, std_tn, std_tp, std_nmin, std_makes, std_room, std_zeros, std_nilq, std_notq, std_eqi, std_eqn, std_eqb, std_eqs, std_eqv, std_cat, std_lst, std_rset, std_rcopy, std_shift, std_eqr, std_strOf, std_bytesOf, std_isB, std_zOf, zOf_int, std_isI, isI_int, std_getL, std_nmul, std_sOf, sOf_str, std_isS, isS_str, std_fadd, std_fsub, std_fav, std_fsv, std_feq, std_fne, std_flt, std_fle, std_fgt, std_fge, std_fOf, std_fTo, std_fTv]
             exact w_succ' hi' (by omega))
        | trace_state
    · have hie : i = L.length := by omega
      have hall : leR L = decide (L.length ≤ 256) := by
        by_cases hl : L.length ≤ 256
        · rw [leR_yes hl fun j hj => hz j (by omega), decide_eq_true hl]
        · rw [leR_big hl, decide_eq_false hl]
      cbv
      repeat' (first | with_reducible exact True.intro | with_reducible exact dr_ok hA (by kernel_rfl) | with_reducible refine And.intro ?_ ?_ | (intro hc; cbv))
      all_goals first
        | (exfalso; clear hz hm hno; subst hA; simp [-List.getD_eq_getElem?_getD, std_add, std_sub, std_mul, std_quo, std_rem, std_band, std_bor, std_bxor, std_shl, std_shr, std_eq, std_ne, std_lt, std_le, std_conv, std_not, std_beq, std_bne, std_ite, std_want, std_and2, std_sadd, std_seq, std_sne, std_slt, std_sle, std_sgt, std_sge, std_slen, std_sget, std_scut, std_ofNat, std_toNat, std_nsub, std_nadd, std_lenOf, std_nz, std_nneg, std_inb, std_upto, std_slt63, std_grow, std_imp, std_impN, std_tr, std_tb, std_ti, std_ts, std_tn, std_tp, std_nmin, std_makes, std_room, std_zeros, std_nilq, std_notq, std_eqi, std_eqn, std_eqb, std_eqs, std_eqv, std_cat, std_lst, std_rset, std_rcopy, std_shift, std_eqr, std_strOf, std_bytesOf, std_isB, std_zOf, zOf_int, std_isI, isI_int, std_getL, std_nmul, std_sOf, sOf_str, std_isS, isS_str, std_fadd, std_fsub, std_fav, std_fsv, std_feq, std_fne, std_flt, std_fle, std_fgt, std_fge, std_fOf, std_fTo, std_fTv] at hc; omega)
        | (exfalso; clear hz hm hno; subst hA; rename_i q; simp [-List.getD_eq_getElem?_getD, std_add, std_sub, std_mul, std_quo, std_rem, std_band, std_bor, std_bxor, std_shl, std_shr, std_eq, std_ne, std_lt, std_le, std_conv, std_not, std_beq, std_bne, std_ite, std_want, std_and2, std_sadd, std_seq, std_sne, std_slt, std_sle, std_sgt, std_sge, std_slen, std_sget, std_scut, std_ofNat, std_toNat, std_nsub, std_nadd, std_lenOf, std_nz, std_nneg, std_inb, std_upto, std_slt63, std_grow, std_imp, std_impN, std_tr, std_tb, std_ti, std_ts, std_tn, std_tp, std_nmin, std_makes, std_room, std_zeros, std_nilq, std_notq, std_eqi, std_eqn, std_eqb, std_eqs, std_eqv, std_cat, std_lst, std_rset, std_rcopy, std_shift, std_eqr, std_strOf, std_bytesOf, std_isB, std_zOf, zOf_int, std_isI, isI_int, std_getL, std_nmul, std_sOf, sOf_str, std_isS, isS_str, std_fadd, std_fsub, std_fav, std_fsv, std_feq, std_fne, std_flt, std_fle, std_fgt, std_fge, std_fOf, std_fTo, std_fTv] at q; omega)
        | (clear hz hm hno
           subst hA
           simp [-List.getD_eq_getElem?_getD, std_add, std_sub, std_mul, std_quo, std_rem, std_band, std_bor, std_bxor, std_shl, std_shr, std_eq, std_ne, std_lt, std_le, std_conv, std_not, std_beq, std_bne, std_ite, std_want, std_and2, std_sadd, std_seq, std_sne, std_slt, std_sle, std_sgt, std_sge, std_slen, std_sget, std_scut, std_ofNat, std_toNat, std_nsub, std_nadd, std_lenOf, std_nz, std_nneg, std_inb, std_upto, std_slt63, std_grow, std_imp, std_impN, std_tr, std_tb, std_ti, std_ts, std_tn, std_tp, std_nmin, std_makes, std_room, std_zeros, std_nilq, std_notq, std_eqi, std_eqn, std_eqb, std_eqs, std_eqv, std_cat, std_lst, std_rset, std_rcopy, std_shift, std_eqr, std_strOf, std_bytesOf, std_isB, std_zOf, zOf_int, std_isI, isI_int, std_getL, std_nmul, std_sOf, sOf_str, std_isS, isS_str, std_fadd, std_fsub, std_fav, std_fsv, std_feq, std_fne, std_flt, std_fle, std_fgt, std_fge, std_fOf, std_fTo, std_fTv, hall] at *
           first
             | done
             | (rw [Bool.eq_iff_iff]; simp; omega)
             | omega
             | trace_state)
        | trace_state
noncomputable def c_rRightL : Ct := fun A args => match args with
  | [.agg [.slc n 4 f]] => some (some (A.tp fun _ => isRow eH H0 4 n f ∧ n ≤ 1000000 ∧ ∀ i, hT ((lstOf eH H0 4 n f).getD i H0)), .bool (A.tb fun _ => leR (lstOf eH H0 4 n f)))
  | _ => none
noncomputable def gz4 : Ar → Pu := addC 63 c_rRightL (gz3)
theorem gz4_ok : PuOk Tryd.prog gl0 (gz4 std) := by
  refine addC_ok (gz3_ok) ⟨_, Tryd.func63, rfl, by decide⟩ ?_
  · intro args p r h hp
    unfold c_rRightL at h
    split at h <;> cases h
    exact good_sv (good_rRightL _ (by rw [lstOf_length hp.1]; exact hp.2.1) hp.2.2) ⟨⟨_, rfl, hp.1.sv, trivial⟩, trivial⟩
end Go.Vd

