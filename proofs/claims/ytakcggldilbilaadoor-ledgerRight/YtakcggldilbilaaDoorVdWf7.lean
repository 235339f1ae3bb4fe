/- Ledgers: what the reference's put comes to. Mathematics only. -/
import Derived.Test.YtakcggldilbilaaDoorVdYB
import Derived.Test.YtakcggldilbilaaDoorVdFlt2
import Derived.Test.YtakcggldilbilaaDoorVdRow2
import Derived.Lib.SmallJoins
import Derived.Test.YtakcggldilbilaaDoorRows
import Derived.Test.YtakcggldilbilaaDoorCards
import Derived.Test.YtakcggldilbilaaDoorTie
import Derived.Test.YtakcggldilbilaaDoorVdH3
import Derived.ProofKit
import Derived.LaidMore
import Derived.OpenShut
import Derived.Stop.Joined
import Derived.SevenTiedAt
import Derived.Lib.LaidTab
import Derived.Test.YtakcggldilbilaaDoorVdI1
set_option linter.unusedVariables false
set_option linter.unusedSimpArgs false
set_option maxRecDepth 100000
set_option maxHeartbeats 8000000
namespace Go.Vd
def putR (e : Hld) : List Hld → Bool → List Hld
  | [], d => if d = true then [] else [e]
  | x :: L, d => (if ordH e x ≤ 0 ∧ d = false then [e] else []) ++ ((if ordH e x = 0 then [] else [x]) ++ putR e L (d || decide (ordH e x ≤ 0)))
theorem putR_gt {e : Hld} {B : List Hld} {d : Bool} : ∀ {A : List Hld}, (∀ a ∈ A, 0 < ordH e a) → putR e (A ++ B) d = A ++ putR e B d
  | [], _ => rfl
  | a :: A, h => by
    have h1 := h a (List.mem_cons_self ..)
    rw [List.cons_append, putR, if_neg (by omega), if_neg (by omega), decide_eq_false (by omega), Bool.or_false, putR_gt fun x hx => h x (List.mem_cons_of_mem _ hx)]
    rfl
theorem putR_done {e : Hld} : ∀ {B : List Hld}, (∀ b ∈ B, ordH e b < 0) → putR e B true = B
  | [], _ => rfl
  | b :: B, h => by
    have h1 := h b (List.mem_cons_self ..)
    rw [putR, if_neg (by simp), if_neg (by omega), Bool.true_or, putR_done fun x hx => h x (List.mem_cons_of_mem _ hx)]
    rfl
theorem putR_first {e : Hld} : ∀ {B : List Hld}, (∀ b ∈ B, ordH e b < 0) → putR e B false = e :: B
  | [], _ => rfl
  | b :: B, h => by
    have h1 := h b (List.mem_cons_self ..)
    rw [putR, if_pos ⟨by omega, rfl⟩, if_neg (by omega), decide_eq_true (by omega), Bool.or_true, putR_done fun x hx => h x (List.mem_cons_of_mem _ hx)]
    rfl
theorem putR_same {e x : Hld} {B : List Hld} (hx : ordH e x = 0) (h : ∀ b ∈ B, ordH e b < 0) : putR e (x :: B) false = e :: B := by
  rw [putR, if_pos ⟨by omega, rfl⟩, if_pos hx, decide_eq_true (by omega), Bool.or_true, putR_done h]
  rfl
theorem putR_step {e : Hld} {L M : List Hld} {i : Nat} {d : Bool} (hi : i < L.length) {x : Hld} (hx : x = L.getD i H0) (h : M ++ putR e (L.drop i) d = putR e L false) :
    (M ++ ((if ordH e x ≤ 0 ∧ d = false then [e] else []) ++ (if ordH e x = 0 then [] else [x]))) ++ putR e (L.drop (i + 1)) (d || decide (ordH e x ≤ 0)) = putR e L false := by
  rw [List.drop_eq_getElem_cons hi, getD_get hi, ← hx, putR] at h
  rw [← h]
  simp [List.append_assoc]
theorem putR_end {e : Hld} {L M : List Hld} {d : Bool} (h : M ++ putR e (L.drop L.length) d = putR e L false) : putR e L false = if d = true then M else M ++ [e] := by
  rw [List.drop_length] at h
  rw [← h, putR]
  cases d <;> simp
theorem putR_len (e : Hld) : ∀ (L : List Hld) (d : Bool), (putR e L d).length ≤ 2 * L.length + 1
  | [], d => by unfold putR; split <;> simp
  | x :: L, d => by
    have := putR_len e L (d || decide (ordH e x ≤ 0))
    unfold putR
    simp only [List.length_append, List.length_cons]
    split <;> split <;> simp <;> omega
theorem ordK_rev {s t : Int} {r q : List UInt8} (h : ordK s r t q < 0) : 0 < ordK t q s r := by
  have h1 := ordK_lt_iff.1 h
  rw [ordK_eq]
  split
  · rename_i h2
    obtain ⟨rfl, rfl⟩ := h2
    rw [ordK_eq, if_pos ⟨rfl, rfl⟩] at h
    exact absurd h (by decide)
  · split
    · rename_i h3
      exfalso
      rcases h1 with h1 | ⟨rfl, h1⟩
      · rcases h3 with h3 | ⟨h3, _⟩ <;> omega
      · rcases h3 with h3 | ⟨_, h3⟩
        · omega
        · exact List.lt_irrefl _ (List.lt_trans h1 h3)
    · decide
theorem put_ins {L : List Hld} {e : Hld} (h : leR L = true) (hn : has L e.s e.r = false) : putR e L false = L.take (pos L e.s e.r) ++ [e] ++ L.drop (pos L e.s e.r) := by
  have hSp := Sp.of ((ascB_iff L).1 (leR_asc h).1) hn
  have h1 : ∀ a ∈ L.take (pos L e.s e.r), 0 < ordH e a := fun a ha => ordK_rev (hSp.la a ha)
  have h2 := putR_gt (e := e) (B := L.drop (pos L e.s e.r)) (d := false) h1
  rw [List.take_append_drop] at h2
  rw [h2, putR_first (e := e) fun b hb => hSp.lb b hb, List.append_assoc]
  rfl
theorem put_sw {L : List Hld} {e : Hld} (h : leR L = true) (hn : has L e.s e.r = true) : putR e L false = L.set (pos L e.s e.r) e := by
  have hasc := (ascB_iff L).1 (leR_asc h).1
  obtain ⟨hp, hk⟩ := has_pos hasc hn
  obtain ⟨k1, k2⟩ := kE_iff.1 hk
  have h1 : ∀ a ∈ L.take (pos L e.s e.r), 0 < ordH e a := fun a ha => by
    obtain ⟨i, hi, rfl⟩ := List.getElem_of_mem ha
    rw [List.length_take] at hi
    rw [List.getElem_take, getD_get (by omega)]
    have := pos_lt (L := L) (s := e.s) (r := e.r) (t := i) (by omega)
    unfold ltK at this
    exact ordK_rev (of_decide_eq_true this)
  have h3 : L.drop (pos L e.s e.r) = L.getD (pos L e.s e.r) H0 :: L.drop (pos L e.s e.r + 1) := by rw [List.drop_eq_getElem_cons hp, getD_get hp]
  have h2 := putR_gt (e := e) (B := L.drop (pos L e.s e.r)) (d := false) h1
  rw [List.take_append_drop] at h2
  rw [h2, h3, putR_same, List.set_eq_take_append_cons_drop, if_pos hp]
  · unfold ordH
    rw [k1, k2, ordK_eq, if_pos ⟨rfl, rfl⟩]
  · intro b hb
    obtain ⟨i, hi, rfl⟩ := List.getElem_of_mem hb
    rw [List.length_drop] at hi
    rw [List.getElem_drop, getD_get (by omega)]
    have := asc_mono hasc (show pos L e.s e.r < pos L e.s e.r + 1 + i by omega) (by omega)
    unfold ordH at this ⊢
    rw [k1, k2] at this
    exact this
theorem plc_has {L : List Hld} {s : Int} {r : List UInt8} : decide (0 ≤ plc L s r) = has L s r := by
  unfold plc
  cases h : has L s r
  · simp
  · simp
theorem plc_lt {L : List Hld} {s : Int} {r : List UInt8} : decide (plc L s r < 0) = !has L s r := by
  unfold plc
  cases h : has L s r
  · simp
  · simp
theorem plc_fnd {L : List Hld} {s : Int} {r : List UInt8} (h : has L s r = true) : ∃ i : Nat, i < L.length ∧ plc L s r = (i : Int) ∧ fnd L s r = L.getD i H0 := by
  have h2 := h
  unfold has at h2
  rw [List.any_eq_true] at h2
  have hi : L.findIdx (kE s r) < L.length := List.findIdx_lt_length.2 h2
  refine ⟨L.findIdx (kE s r), hi, by unfold plc; rw [if_pos h], ?_⟩
  have h0 : ∀ j, j < L.findIdx (kE s r) → kE s r (L.getD j H0) = false := fun j hj => by
    have := List.not_of_lt_findIdx hj
    rw [getD_get (by omega)] at this
    simpa using this
  have h1 : kE s r (L.getD (L.findIdx (kE s r)) H0) = true := by
    have := List.findIdx_getElem (w := hi)
    rw [getD_get hi] at this
    exact this
  exact (fnd_yes hi h0 h1).1
theorem plc_pos {L : List Hld} {s : Int} {r : List UInt8} (h : leR L = true) (hn : has L s r = true) : plc L s r = (pos L s r : Int) := by
  have hasc := (ascB_iff L).1 (leR_asc h).1
  obtain ⟨hp, hk⟩ := has_pos hasc hn
  refine plc_yes hp (fun j hj => ?_) hk
  cases h2 : kE s r (L.getD j H0)
  · rfl
  · have := ltK_self h2
    rw [pos_lt hj] at this
    cases this
end Go.Vd

set_option linter.unusedVariables false
set_option linter.unusedSimpArgs false
set_option maxRecDepth 100000
set_option maxHeartbeats 8000000
namespace Go.Vd
open Go.Proofs
attribute [local irreducible] vc
theorem good_rPutL (L : List Hld) (s am st : Int) (r : List UInt8) (hL : L.length ≤ 1000000) : GoodP Tryd.prog gl0 122 [sL std fun _ => L, .agg [.int .u32 s, .str r, .int .u64 am, .int .i64 st]] (sL std fun _ => putR ⟨s, r, am, st⟩ L false) := by
  refine fn_sound' (T := seatT) (G := gz4) (X := noX) seatT_ok gz4_ok noX_ok noI_ok mixed Tryd.func122 (.none) (fun A => [sL A fun _ => L, .agg [.int .u32 s, .str r, .int .u64 am, .int .i64 st]]) (fun A => sL A fun _ => putR ⟨s, r, am, st⟩ L false) fun A hA => ?_
  obtain ⟨E, hE⟩ : ∃ E : Hld, E = ⟨s, r, am, st⟩ := ⟨_, rfl⟩
  rw [← hE]
  cbv
  repeat' (first | with_reducible exact True.intro | with_reducible exact dr_ok hA (by kernel_rfl) | with_reducible refine And.intro ?_ ?_ | (intro hc; cbv))
  refine ⟨⟨{p : (Nat × Bool) × List Hld // p.1.1 ≤ L.length ∧ p.2 ++ putR E (L.drop p.1.1) p.1.2 = putR E L false ∧ p.2.length ≤ 2 * p.1.1}, fun b p => [(5, .own b), (6, .bool p.1.1.2), (7, .int .i64 (p.1.1.1 : Nat))], fun b p => [(b, .row 91 4 (A.tn fun _ => p.1.2.length) (rowF eH H0 A fun _ => p.1.2))], fun p => L.length - p.1.1.1, true⟩, ⟨⟨((0, false), []), Nat.zero_le _, rfl, by simp⟩, ?_⟩, ?_⟩
  · cbv
    subst hA
    simp [-List.getD_eq_getElem?_getD, std_add, std_sub, std_mul, std_quo, std_rem, std_band, std_bor, std_bxor, std_shl, std_shr, std_eq, std_ne, std_lt, std_le, std_conv, std_not, std_beq, std_bne, std_ite, std_want, std_and2, std_sadd, std_seq, std_sne, std_slt, std_sle, std_sgt, std_sge, std_slen, std_sget, std_scut, std_ofNat, std_toNat, std_nsub, std_nadd, std_lenOf, std_nz, std_nneg, std_inb, std_upto, std_slt63, std_grow, std_imp, std_impN, std_tr, std_tb, std_ti, std_ts, std_tn, std_tp, std_nmin, std_makes, std_room, std_zeros, std_nilq, std_notq, std_eqi, std_eqn, std_eqb, std_eqs, std_eqv, std_cat, std_lst, std_rset, std_rcopy, std_shift, std_eqr, std_strOf, std_bytesOf, std_isB, std_zOf, zOf_int, std_isI, isI_int, std_getL, std_nmul, std_sOf, sOf_str, std_isS, isS_str, std_fadd, std_fsub, std_fav, std_fsv, std_feq, std_fne, std_flt, std_fle, std_fgt, std_fge, std_fOf, std_fTo, std_fTv]
  · rintro ⟨⟨⟨i, d⟩, M⟩, hx⟩
    have hi : i ≤ L.length := hx.1
    have hM : M ++ putR E (L.drop i) d = putR E L false := hx.2.1
    have hl : M.length ≤ 2 * i := hx.2.2
    obtain ⟨x, hxe⟩ : ∃ x, x = L.getD i H0 := ⟨_, rfl⟩
    have hg : L.getD i { s := 0, r := [], am := 0, st := 0 } = x := hxe.symm
    rcases Nat.lt_or_ge i L.length with hlt | hge
    · have hst := putR_step (e := E) hlt hxe hM
      have hoE : ordH E x = ordK s r x.s x.r := by unfold ordH; rw [hE]
      obtain ⟨i', hi'⟩ : ∃ i', i' = i + 1 := ⟨_, rfl⟩
      rw [← hi', hoE] at hst
      obtain ⟨n, hn⟩ : ∃ n, n = ordK s r x.s x.r := ⟨_, rfl⟩
      rw [← hn] at hst
      have hcE : ∀ j, j < 4 → Ceq (getAt [SV.int .u32 s, SV.str r, SV.int .u64 am, SV.int .i64 st] j) (getAt (eH std fun _ => E) j) := by
        rw [hE]; exact cell_eH ⟨s, r, am, st⟩
      cbv
      repeat' (first | with_reducible exact True.intro | with_reducible exact dr_ok hA (by kernel_rfl) | with_reducible refine And.intro ?_ ?_ | (intro hc; cbv))
      all_goals first
        | (fail_if_success (refine Exists.intro ?_ ?_)
           clear hst hM hoE
           subst hA
           simp [-List.getD_eq_getElem?_getD, std_add, std_sub, std_mul, std_quo, std_rem, std_band, std_bor, std_bxor, std_shl, std_shr, std_eq, std_ne, std_lt, std_le, std_conv, std_not, std_beq, std_bne, std_ite, std_want, std_and2, std_sadd, std_seq, std_sne, std_slt, std_sle, std_sgt, std_sge, std_slen, std_sget, std_scut, std_ofNat, std_toNat, std_nsub, std_nadd, std_lenOf, std_nz, std_nneg, std_inb, std_upto, std_slt63, std_grow, std_imp, std_impN, std_tr, std_tb, std_ti, std_ts, std_tn, std_tp, std_nmin, std_makes, std_room, std_zeros, std_nilq, std_notq, std_eqi, std_eqn, std_eqb, std_eqs, std_eqv, std_cat, std_lst, std_rset, std_rcopy, std_shift, std_eqr, std_strOf, std_bytesOf, std_isB, std_zOf, zOf_int, std_isI, isI_int, std_getL, std_nmul, std_sOf, sOf_str, std_isS, isS_str, std_fadd, std_fsub, std_fav, std_fsv, std_feq, std_fne, std_flt, std_fle, std_fgt, std_fge, std_fOf, std_fTo, std_fTv, hg, ← hn] at *
           first
             | done
             | omega
             | exact ⟨(show (0 : Int) ≤ ((i : Nat) : Int) by omega), (show ((i : Nat) : Int) < ((L.length : Nat) : Int) by omega)⟩
             | (constructor <;> omega)
             | (intros; assumption)
             | (intro h1 h2; exact ⟨h1, h2⟩)
             | trace_state)
        | (have key : ∀ (M' : List Hld) (d' : Bool), M' = M ++ ((if n ≤ 0 ∧ d = false then [E] else []) ++ (if n = 0 then [] else [x])) → d' = (d || decide (n ≤ 0)) → i' ≤ L.length ∧ M' ++ putR E (L.drop i') d' = putR E L false ∧ M'.length ≤ 2 * i' := by
             intro M' d' e1 e2
             refine ⟨by omega, by rw [e1, e2]; exact hst, ?_⟩
             rw [e1]
             split <;> split <;> simp <;> omega
           rename_i g1 g2
           by_cases z : n = 0
           · by_cases k : n ≤ 0 ∧ d = false
             · obtain ⟨M', hM'⟩ : ∃ M', M' = M ++ [E] := ⟨_, rfl⟩
               obtain ⟨d', hd'⟩ : ∃ d', d' = true := ⟨_, rfl⟩
               first
                 | (exfalso; clear key hst; subst hA; simp [-List.getD_eq_getElem?_getD, std_add, std_sub, std_mul, std_quo, std_rem, std_band, std_bor, std_bxor, std_shl, std_shr, std_eq, std_ne, std_lt, std_le, std_conv, std_not, std_beq, std_bne, std_ite, std_want, std_and2, std_sadd, std_seq, std_sne, std_slt, std_sle, std_sgt, std_sge, std_slen, std_sget, std_scut, std_ofNat, std_toNat, std_nsub, std_nadd, std_lenOf, std_nz, std_nneg, std_inb, std_upto, std_slt63, std_grow, std_imp, std_impN, std_tr, std_tb, std_ti, std_ts, std_tn, std_tp, std_nmin, std_makes, std_room, std_zeros, std_nilq, std_notq, std_eqi, std_eqn, std_eqb, std_eqs, std_eqv, std_cat, std_lst, std_rset, std_rcopy, std_shift, std_eqr, std_strOf, std_bytesOf, std_isB, std_zOf, zOf_int, std_isI, isI_int, std_getL, std_nmul, std_sOf, sOf_str, std_isS, isS_str, std_fadd, std_fsub, std_fav, std_fsv, std_feq, std_fne, std_flt, std_fle, std_fgt, std_fge, std_fOf, std_fTo, std_fTv, hg, ← hn, z, k.2] at g2 hc; done)
                 | (refine ⟨⟨((i', d'), M'), key M' d' (by rw [hM', if_pos k, if_pos z]; simp) (by rw [hd', decide_eq_true k.1]; simp)⟩, ?_, show L.length - i' < L.length - i by omega⟩
                    cbv
                    subst hA
                    simp [-List.getD_eq_getElem?_getD, std_add, std_sub, std_mul, std_quo, std_rem, std_band, std_bor, std_bxor, std_shl, std_shr, std_eq, std_ne, std_lt, std_le, std_conv, std_not, std_beq, std_bne, std_ite, std_want, std_and2, std_sadd, std_seq, std_sne, std_slt, std_sle, std_sgt, std_sge, std_slen, std_sget, std_scut, std_ofNat, std_toNat, std_nsub, std_nadd, std_lenOf, std_nz, std_nneg, std_inb, std_upto, std_slt63, std_grow, std_imp, std_impN, std_tr, std_tb, std_ti, std_ts, std_tn, std_tp, std_nmin, std_makes, std_room, std_zeros, std_nilq, std_notq, std_eqi, std_eqn, std_eqb, std_eqs, std_eqv, std_cat, std_lst, std_rset, std_rcopy, std_shift, std_eqr, std_strOf, std_bytesOf, std_isB, std_zOf, zOf_int, std_isI, isI_int, std_getL, std_nmul, std_sOf, sOf_str, std_isS, isS_str, std_fadd, std_fsub, std_fav, std_fsv, std_feq, std_fne, std_flt, std_fle, std_fgt, std_fge, std_fOf, std_fTo, std_fTv, hd']
                    refine ⟨w_succ' hi' (by omega), ?_, ?_⟩
                    · rw [hM']; simp
                    · exact eqr_of ((Reps.lit M).cat (Reps.one hcE)) (by rw [hM']; simp) hM'.symm)
             · obtain ⟨M', hM'⟩ : ∃ M', M' = M := ⟨_, rfl⟩
               obtain ⟨d', hd'⟩ : ∃ d', d' = d := ⟨_, rfl⟩
               have hdt : d = true := by cases d <;> simp [z] at k ⊢
               first
                 | (exfalso; clear key hst; subst hA; simp [-List.getD_eq_getElem?_getD, std_add, std_sub, std_mul, std_quo, std_rem, std_band, std_bor, std_bxor, std_shl, std_shr, std_eq, std_ne, std_lt, std_le, std_conv, std_not, std_beq, std_bne, std_ite, std_want, std_and2, std_sadd, std_seq, std_sne, std_slt, std_sle, std_sgt, std_sge, std_slen, std_sget, std_scut, std_ofNat, std_toNat, std_nsub, std_nadd, std_lenOf, std_nz, std_nneg, std_inb, std_upto, std_slt63, std_grow, std_imp, std_impN, std_tr, std_tb, std_ti, std_ts, std_tn, std_tp, std_nmin, std_makes, std_room, std_zeros, std_nilq, std_notq, std_eqi, std_eqn, std_eqb, std_eqs, std_eqv, std_cat, std_lst, std_rset, std_rcopy, std_shift, std_eqr, std_strOf, std_bytesOf, std_isB, std_zOf, zOf_int, std_isI, isI_int, std_getL, std_nmul, std_sOf, sOf_str, std_isS, isS_str, std_fadd, std_fsub, std_fav, std_fsv, std_feq, std_fne, std_flt, std_fle, std_fgt, std_fge, std_fOf, std_fTo, std_fTv, hg, ← hn, z, hdt] at g2 hc; done)
                 | (refine ⟨⟨((i', d'), M'), key M' d' (by rw [hM', if_neg k, if_pos z]; simp) (by rw [hd', hdt]; simp)⟩, ?_, show L.length - i' < L.length - i by omega⟩
                    cbv
                    subst hA
                    simp [-List.getD_eq_getElem?_getD, std_add, std_sub, std_mul, std_quo, std_rem, std_band, std_bor, std_bxor, std_shl, std_shr, std_eq, std_ne, std_lt, std_le, std_conv, std_not, std_beq, std_bne, std_ite, std_want, std_and2, std_sadd, std_seq, std_sne, std_slt, std_sle, std_sgt, std_sge, std_slen, std_sget, std_scut, std_ofNat, std_toNat, std_nsub, std_nadd, std_lenOf, std_nz, std_nneg, std_inb, std_upto, std_slt63, std_grow, std_imp, std_impN, std_tr, std_tb, std_ti, std_ts, std_tn, std_tp, std_nmin, std_makes, std_room, std_zeros, std_nilq, std_notq, std_eqi, std_eqn, std_eqb, std_eqs, std_eqv, std_cat, std_lst, std_rset, std_rcopy, std_shift, std_eqr, std_strOf, std_bytesOf, std_isB, std_zOf, zOf_int, std_isI, isI_int, std_getL, std_nmul, std_sOf, sOf_str, std_isS, isS_str, std_fadd, std_fsub, std_fav, std_fsv, std_feq, std_fne, std_flt, std_fle, std_fgt, std_fge, std_fOf, std_fTo, std_fTv, hd', hM']
                    exact w_succ' hi' (by omega))
           · by_cases k : n ≤ 0 ∧ d = false
             · obtain ⟨M', hM'⟩ : ∃ M', M' = M ++ [E] ++ [x] := ⟨_, rfl⟩
               obtain ⟨d', hd'⟩ : ∃ d', d' = true := ⟨_, rfl⟩
               first
                 | (exfalso; clear key hst; subst hA; simp [-List.getD_eq_getElem?_getD, std_add, std_sub, std_mul, std_quo, std_rem, std_band, std_bor, std_bxor, std_shl, std_shr, std_eq, std_ne, std_lt, std_le, std_conv, std_not, std_beq, std_bne, std_ite, std_want, std_and2, std_sadd, std_seq, std_sne, std_slt, std_sle, std_sgt, std_sge, std_slen, std_sget, std_scut, std_ofNat, std_toNat, std_nsub, std_nadd, std_lenOf, std_nz, std_nneg, std_inb, std_upto, std_slt63, std_grow, std_imp, std_impN, std_tr, std_tb, std_ti, std_ts, std_tn, std_tp, std_nmin, std_makes, std_room, std_zeros, std_nilq, std_notq, std_eqi, std_eqn, std_eqb, std_eqs, std_eqv, std_cat, std_lst, std_rset, std_rcopy, std_shift, std_eqr, std_strOf, std_bytesOf, std_isB, std_zOf, zOf_int, std_isI, isI_int, std_getL, std_nmul, std_sOf, sOf_str, std_isS, isS_str, std_fadd, std_fsub, std_fav, std_fsv, std_feq, std_fne, std_flt, std_fle, std_fgt, std_fge, std_fOf, std_fTo, std_fTv, hg, ← hn, z, k.1, k.2] at g2 hc; done)
                 | (refine ⟨⟨((i', d'), M'), key M' d' (by rw [hM', if_pos k, if_neg z]; simp) (by rw [hd', decide_eq_true k.1]; simp)⟩, ?_, show L.length - i' < L.length - i by omega⟩
                    cbv
                    subst hA
                    simp [-List.getD_eq_getElem?_getD, std_add, std_sub, std_mul, std_quo, std_rem, std_band, std_bor, std_bxor, std_shl, std_shr, std_eq, std_ne, std_lt, std_le, std_conv, std_not, std_beq, std_bne, std_ite, std_want, std_and2, std_sadd, std_seq, std_sne, std_slt, std_sle, std_sgt, std_sge, std_slen, std_sget, std_scut, std_ofNat, std_toNat, std_nsub, std_nadd, std_lenOf, std_nz, std_nneg, std_inb, std_upto, std_slt63, std_grow, std_imp, std_impN, std_tr, std_tb, std_ti, std_ts, std_tn, std_tp, std_nmin, std_makes, std_room, std_zeros, std_nilq, std_notq, std_eqi, std_eqn, std_eqb, std_eqs, std_eqv, std_cat, std_lst, std_rset, std_rcopy, std_shift, std_eqr, std_strOf, std_bytesOf, std_isB, std_zOf, zOf_int, std_isI, isI_int, std_getL, std_nmul, std_sOf, sOf_str, std_isS, isS_str, std_fadd, std_fsub, std_fav, std_fsv, std_feq, std_fne, std_flt, std_fle, std_fgt, std_fge, std_fOf, std_fTo, std_fTv, hd', hg]
                    refine ⟨w_succ' hi' (by omega), ?_, ?_⟩
                    · rw [hM']; simp
                    · exact eqr_of (((Reps.lit M).cat (Reps.one hcE)).cat (Reps.one (cell_eH x))) (by rw [hM']; simp) hM'.symm)
             · obtain ⟨M', hM'⟩ : ∃ M', M' = M ++ [x] := ⟨_, rfl⟩
               obtain ⟨d', hd'⟩ : ∃ d', d' = d := ⟨_, rfl⟩
               first
                 | (exfalso; clear key hst; subst hA; simp [-List.getD_eq_getElem?_getD, std_add, std_sub, std_mul, std_quo, std_rem, std_band, std_bor, std_bxor, std_shl, std_shr, std_eq, std_ne, std_lt, std_le, std_conv, std_not, std_beq, std_bne, std_ite, std_want, std_and2, std_sadd, std_seq, std_sne, std_slt, std_sle, std_sgt, std_sge, std_slen, std_sget, std_scut, std_ofNat, std_toNat, std_nsub, std_nadd, std_lenOf, std_nz, std_nneg, std_inb, std_upto, std_slt63, std_grow, std_imp, std_impN, std_tr, std_tb, std_ti, std_ts, std_tn, std_tp, std_nmin, std_makes, std_room, std_zeros, std_nilq, std_notq, std_eqi, std_eqn, std_eqb, std_eqs, std_eqv, std_cat, std_lst, std_rset, std_rcopy, std_shift, std_eqr, std_strOf, std_bytesOf, std_isB, std_zOf, zOf_int, std_isI, isI_int, std_getL, std_nmul, std_sOf, sOf_str, std_isS, isS_str, std_fadd, std_fsub, std_fav, std_fsv, std_feq, std_fne, std_flt, std_fle, std_fgt, std_fge, std_fOf, std_fTo, std_fTv, hg, ← hn, z] at g2 hc; cases d <;> simp at k g2 <;> omega)
                 | (exfalso; clear key hst; subst hA; simp [-List.getD_eq_getElem?_getD, std_add, std_sub, std_mul, std_quo, std_rem, std_band, std_bor, std_bxor, std_shl, std_shr, std_eq, std_ne, std_lt, std_le, std_conv, std_not, std_beq, std_bne, std_ite, std_want, std_and2, std_sadd, std_seq, std_sne, std_slt, std_sle, std_sgt, std_sge, std_slen, std_sget, std_scut, std_ofNat, std_toNat, std_nsub, std_nadd, std_lenOf, std_nz, std_nneg, std_inb, std_upto, std_slt63, std_grow, std_imp, std_impN, std_tr, std_tb, std_ti, std_ts, std_tn, std_tp, std_nmin, std_makes, std_room, std_zeros, std_nilq, std_notq, std_eqi, std_eqn, std_eqb, std_eqs, std_eqv, std_cat, std_lst, std_rset, std_rcopy, std_shift, std_eqr, std_strOf, std_bytesOf, std_isB, std_zOf, zOf_int, std_isI, isI_int, std_getL, std_nmul, std_sOf, sOf_str, std_isS, isS_str, std_fadd, std_fsub, std_fav, std_fsv, std_feq, std_fne, std_flt, std_fle, std_fgt, std_fge, std_fOf, std_fTo, std_fTv, hg, ← hn, z] at g2 hc; done)
                 | (refine ⟨⟨((i', d'), M'), key M' d' (by rw [hM', if_neg k, if_neg z]; simp) (by rw [hd']; cases d <;> simp at k ⊢; omega)⟩, ?_, show L.length - i' < L.length - i by omega⟩
                    cbv
                    subst hA
                    simp [-List.getD_eq_getElem?_getD, std_add, std_sub, std_mul, std_quo, std_rem, std_band, std_bor, std_bxor, std_shl, std_shr, std_eq, std_ne, std_lt, std_le, std_conv, std_not, std_beq, std_bne, std_ite, std_want, std_and2, std_sadd, std_seq, std_sne, std_slt, std_sle, std_sgt, std_sge, std_slen, std_sget, std_scut, std_ofNat, std_toNat, std_nsub, std_nadd, std_lenOf, std_nz, std_nneg, std_inb, std_upto, std_slt63, std_grow, std_imp, std_impN, std_tr, std_tb, std_ti, std_ts, std_tn, std_tp, std_nmin, std_makes, std_room, std_zeros, std_nilq, std_notq, std_eqi, std_eqn, std_eqb, std_eqs, std_eqv, std_cat, std_lst, std_rset, std_rcopy, std_shift, std_eqr, std_strOf, std_bytesOf, std_isB, std_zOf, zOf_int, std_isI, isI_int, std_getL, std_nmul, std_sOf, sOf_str, std_isS, isS_str, std_fadd, std_fsub, std_fav, std_fsv, std_feq, std_fne, std_flt, std_fle, std_fgt, std_fge, std_fOf, std_fTo, std_fTv, hd', hg]
                    refine ⟨w_succ' hi' (by omega), ?_, ?_⟩
                    · rw [hM']; simp
                    · exact eqr_of ((Reps.lit M).cat (Reps.one (cell_eH x))) (by rw [hM']; simp) hM'.symm))
        | trace_state
    · have hie : i = L.length := by omega
      rw [hie] at hM
      have hend := putR_end hM
      have hcE : ∀ j, j < 4 → Ceq (getAt [SV.int .u32 s, SV.str r, SV.int .u64 am, SV.int .i64 st] j) (getAt (eH std fun _ => E) j) := by
        rw [hE]; exact cell_eH ⟨s, r, am, st⟩
      cbv
      repeat' (first | with_reducible exact True.intro | with_reducible exact dr_ok hA (by kernel_rfl) | with_reducible refine And.intro ?_ ?_ | (intro hc; cbv))
      all_goals first
        | (exfalso; clear hM hend; subst hA; simp [-List.getD_eq_getElem?_getD, std_add, std_sub, std_mul, std_quo, std_rem, std_band, std_bor, std_bxor, std_shl, std_shr, std_eq, std_ne, std_lt, std_le, std_conv, std_not, std_beq, std_bne, std_ite, std_want, std_and2, std_sadd, std_seq, std_sne, std_slt, std_sle, std_sgt, std_sge, std_slen, std_sget, std_scut, std_ofNat, std_toNat, std_nsub, std_nadd, std_lenOf, std_nz, std_nneg, std_inb, std_upto, std_slt63, std_grow, std_imp, std_impN, std_tr, std_tb, std_ti, std_ts, std_tn, std_tp, std_nmin, std_makes, std_room, std_zeros, std_nilq, std_notq, std_eqi, std_eqn, std_eqb, std_eqs, std_eqv, std_cat, std_lst, std_rset, std_rcopy, std_shift, std_eqr, std_strOf, std_bytesOf, std_isB, std_zOf, zOf_int, std_isI, isI_int, std_getL, std_nmul, std_sOf, sOf_str, std_isS, isS_str, std_fadd, std_fsub, std_fav, std_fsv, std_feq, std_fne, std_flt, std_fle, std_fgt, std_fge, std_fOf, std_fTo, std_fTv] at hc; omega)
        | (exfalso; clear hM hend; subst hA; rename_i q; simp [-List.getD_eq_getElem?_getD, std_add, std_sub, std_mul, std_quo, std_rem, std_band, std_bor, std_bxor, std_shl, std_shr, std_eq, std_ne, std_lt, std_le, std_conv, std_not, std_beq, std_bne, std_ite, std_want, std_and2, std_sadd, std_seq, std_sne, std_slt, std_sle, std_sgt, std_sge, std_slen, std_sget, std_scut, std_ofNat, std_toNat, std_nsub, std_nadd, std_lenOf, std_nz, std_nneg, std_inb, std_upto, std_slt63, std_grow, std_imp, std_impN, std_tr, std_tb, std_ti, std_ts, std_tn, std_tp, std_nmin, std_makes, std_room, std_zeros, std_nilq, std_notq, std_eqi, std_eqn, std_eqb, std_eqs, std_eqv, std_cat, std_lst, std_rset, std_rcopy, std_shift, std_eqr, std_strOf, std_bytesOf, std_isB, std_zOf, zOf_int, std_isI, isI_int, std_getL, std_nmul, std_sOf, sOf_str, std_isS, isS_str, std_fadd, std_fsub, std_fav, std_fsv, std_feq, std_fne, std_flt, std_fle, std_fgt, std_fge, std_fOf, std_fTo, std_fTv] at q; omega)
        | (exfalso; clear hM hend; subst hA; rename_i q q2; simp [-List.getD_eq_getElem?_getD, std_add, std_sub, std_mul, std_quo, std_rem, std_band, std_bor, std_bxor, std_shl, std_shr, std_eq, std_ne, std_lt, std_le, std_conv, std_not, std_beq, std_bne, std_ite, std_want, std_and2, std_sadd, std_seq, std_sne, std_slt, std_sle, std_sgt, std_sge, std_slen, std_sget, std_scut, std_ofNat, std_toNat, std_nsub, std_nadd, std_lenOf, std_nz, std_nneg, std_inb, std_upto, std_slt63, std_grow, std_imp, std_impN, std_tr, std_tb, std_ti, std_ts, std_tn, std_tp, std_nmin, std_makes, std_room, std_zeros, std_nilq, std_notq, std_eqi, std_eqn, std_eqb, std_eqs, std_eqv, std_cat, std_lst, std_rset, std_rcopy, std_shift, std_eqr, std_strOf, std_bytesOf, std_isB, std_zOf, zOf_int, std_isI, isI_int, std_getL, std_nmul, std_sOf, sOf_str, std_isS, isS_str, std_fadd, std_fsub, std_fav, std_fsv, std_feq, std_fne, std_flt, std_fle, std_fgt, std_fge, std_fOf, std_fTo, std_fTv] at q; omega)
        | (clear hM
           subst hA
           simp [-List.getD_eq_getElem?_getD, std_add, std_sub, std_mul, std_quo, std_rem, std_band, std_bor, std_bxor, std_shl, std_shr, std_eq, std_ne, std_lt, std_le, std_conv, std_not, std_beq, std_bne, std_ite, std_want, std_and2, std_sadd, std_seq, std_sne, std_slt, std_sle, std_sgt, std_sge, std_slen, std_sget, std_scut, std_ofNat, std_toNat, std_nsub, std_nadd, std_lenOf, std_nz, std_nneg, std_inb, std_upto, std_slt63, std_grow, std_imp, std_impN, std_tr, std_tb, std_ti, std_ts, std_tn, std_tp, std_nmin, std_makes, std_room, std_zeros, std_nilq, std_notq, std_eqi, std_eqn, std_eqb, std_eqs, std_eqv, std_cat, std_lst, std_rset, std_rcopy, std_shift, std_eqr, std_strOf, std_bytesOf, std_isB, std_zOf, zOf_int, std_isI, isI_int, std_getL, std_nmul, std_sOf, sOf_str, std_isS, isS_str, std_fadd, std_fsub, std_fav, std_fsv, std_feq, std_fne, std_flt, std_fle, std_fgt, std_fge, std_fOf, std_fTo, std_fTv] at hc ⊢
           rw [hc] at hend
           simp at hend
           first
             | (constructor <;> omega)
             | omega
             | (rw [hend]; done)
             | (rw [hend]; simp; done)
             | (rw [hend]; exact (Reps.lit _).eqr)
             | exact eqr_of ((Reps.lit M).cat (Reps.one hcE)) (by rw [hend]; simp) hend.symm
             | trace_state)
        | trace_state
noncomputable def c_rPutL : Ct := fun A args => match args with
  | [.agg [.slc n 4 f], .agg [.int .u32 s, .str r, .int .u64 am, .int .i64 st]] => some (some (A.tp fun _ => isRow eH H0 4 n f ∧ n ≤ 1000000), sL A fun _ => putR ⟨s, r, am, st⟩ (lstOf eH H0 4 n f) false)
  | _ => none
noncomputable def gz5 : Ar → Pu := addC 122 c_rPutL (gz4)
theorem gz5_ok : PuOk Tryd.prog gl0 (gz5 std) := by
  refine addC_ok (gz4_ok) ⟨_, Tryd.func122, rfl, by decide⟩ ?_
  · intro args p r h hp
    unfold c_rPutL at h
    split at h <;> cases h
    exact good_sv (good_rPutL _ _ _ _ _ (by rw [lstOf_length hp.1]; exact hp.2)) ⟨⟨_, rfl, hp.1.sv, trivial⟩, ⟨_, rfl, rfl, rfl, rfl, rfl, trivial⟩, trivial⟩
end Go.Vd

set_option linter.unusedVariables false
set_option linter.unusedSimpArgs false
set_option maxRecDepth 100000
set_option maxHeartbeats 8000000
namespace Go.Vd
open Go.Proofs
theorem tot_bd (z : Int) : ∀ {L : List Hld}, (∀ e ∈ L, amOk e) → 0 ≤ tot z L ∧ tot z L ≤ 1000000000000 * L.length
  | [], _ => by simp [tot]
  | e :: L, h => by
    have h1 := h e (List.mem_cons_self ..)
    have h2 := tot_bd z (L := L) fun x hx => h x (List.mem_cons_of_mem _ hx)
    unfold amOk at h1
    unfold tot
    rw [List.length_cons]
    split <;> omega
attribute [local irreducible] vc
theorem good_rTotal (L : List Hld) (z : Int) (hL : L.length ≤ 1000) (ha : ∀ e ∈ L, amOk e) : GoodP Tryd.prog gl0 64 [sL std fun _ => L, .int .i64 z] (.int .u64 (std.ti fun _ => tot z L)) := by
  refine fn_sound' (T := seatT) (G := noC) (X := noX) seatT_ok noC_ok noX_ok noI_ok mixed Tryd.func64 (.one) (fun A => [sL A fun _ => L, .int .i64 z]) (fun A => .int .u64 (A.ti fun _ => tot z L)) fun A hA => ?_
  cbv
  repeat' (first | with_reducible exact True.intro | with_reducible exact dr_ok hA (by kernel_rfl) | with_reducible refine And.intro ?_ ?_ | (intro hc; cbv))
  refine ⟨⟨{q : Nat × Int // q.1 ≤ L.length ∧ q.2 = tot z (L.take q.1)}, fun b q => [(5, .int .u64 q.1.2), (6, .int .i64 (q.1.1 : Nat))], fun b i => [], fun q => L.length - q.1.1, true⟩, ⟨⟨(0, 0), by simp, rfl⟩, ?_⟩, ?_⟩
  · cbv
    subst hA
    simp [-List.getD_eq_getElem?_getD, std_add, std_sub, std_mul, std_quo, std_rem, std_band, std_bor, std_bxor, std_shl, std_shr, std_eq, std_ne, std_lt, std_le, std_conv, std_not, std_beq, std_bne, std_ite, std_want, std_and2, std_sadd, std_seq, std_sne, std_slt, std_sle, std_sgt, std_sge, std_slen, std_sget, std_scut, std_ofNat, std_toNat, std_nsub, std_nadd, std_lenOf, std_nz, std_nneg, std_inb, std_upto, std_slt63, std_grow, std_imp, std_impN, std_tr, std_tb, std_ti, std_ts, std_tn, std_tp, std_nmin, std_makes, std_room, std_zeros, std_nilq, std_notq, std_eqi, std_eqn, std_eqb, std_eqs, std_eqv, std_cat, std_lst, std_rset, std_rcopy, std_shift, std_eqr, std_strOf, std_bytesOf, std_isB, std_zOf, zOf_int, std_isI, isI_int, std_getL, std_nmul, std_sOf, sOf_str, std_isS, isS_str, std_fadd, std_fsub, std_fav, std_fsv, std_feq, std_fne, std_flt, std_fle, std_fgt, std_fge, std_fOf, std_fTo, std_fTv]
  · intro x
    obtain ⟨⟨i, n⟩, hx⟩ := x
    have hi := hx.1
    have hz := hx.2
    simp only at hi hz
    obtain ⟨e, he⟩ : ∃ e, e = L.getD i H0 := ⟨_, rfl⟩
    have hg : L.getD i { s := 0, r := [], am := 0, st := 0 } = e := he.symm
    have hbd := tot_bd z (L := L.take i) fun x hx => ha x (List.mem_of_mem_take hx)
    rw [← hz, List.length_take] at hbd
    rcases Nat.lt_or_ge i L.length with hlt | hge
    · have hae : amOk e := by rw [he, List.getD_eq_getElem?_getD, List.getElem?_eq_getElem hlt]; exact ha _ (List.getElem_mem hlt)
      unfold amOk at hae
      have hnx : tot z (L.take (i + 1)) = n + (if e.st = z then e.am else 0) := by rw [← take_snoc (d := H0) hlt, tot_snoc, ← hz, ← he]
      have hw2 : IntKind.u64.wrap (n + e.am) = n + e.am := wU64' (by omega)
      clear ha hz
      cbv
      repeat' (first | with_reducible exact True.intro | with_reducible exact dr_ok hA (by kernel_rfl) | with_reducible refine And.intro ?_ ?_ | (intro hc; cbv))
      all_goals first
        | (fail_if_success (refine Exists.intro ?_ ?_)
           clear hnx
           subst hA
           simp [-List.getD_eq_getElem?_getD, std_add, std_sub, std_mul, std_quo, std_rem, std_band, std_bor, std_bxor, std_shl, std_shr, std_eq, std_ne, std_lt, std_le, std_conv, std_not, std_beq, std_bne, std_ite, std_want, std_and2, std_sadd, std_seq, std_sne, std_slt, std_sle, std_sgt, std_sge, std_slen, std_sget, std_scut, std_ofNat, std_toNat, std_nsub, std_nadd, std_lenOf, std_nz, std_nneg, std_inb, std_upto, std_slt63, std_grow, std_imp, std_impN, std_tr, std_tb, std_ti, std_ts, std_tn, std_tp, std_nmin, std_makes, std_room, std_zeros, std_nilq, std_notq, std_eqi, std_eqn, std_eqb, std_eqs, std_eqv, std_cat, std_lst, std_rset, std_rcopy, std_shift, std_eqr, std_strOf, std_bytesOf, std_isB, std_zOf, zOf_int, std_isI, isI_int, std_getL, std_nmul, std_sOf, sOf_str, std_isS, isS_str, std_fadd, std_fsub, std_fav, std_fsv, std_feq, std_fne, std_flt, std_fle, std_fgt, std_fge, std_fOf, std_fTo, std_fTv, hg] at *
           first
             | done
             | exact ⟨(show (0 : Int) ≤ ((i : Nat) : Int) by omega), (show ((i : Nat) : Int) < ((L.length : Nat) : Int) by omega)⟩
             | omega
             | trace_state)
        | (obtain ⟨i', hi'⟩ : ∃ i', i' = i + 1 := ⟨_, rfl⟩
           have hw := w_succ' hi' (by omega)
           have hk : e.st = z := by
             clear hnx
             subst hA
             simp [-List.getD_eq_getElem?_getD, std_add, std_sub, std_mul, std_quo, std_rem, std_band, std_bor, std_bxor, std_shl, std_shr, std_eq, std_ne, std_lt, std_le, std_conv, std_not, std_beq, std_bne, std_ite, std_want, std_and2, std_sadd, std_seq, std_sne, std_slt, std_sle, std_sgt, std_sge, std_slen, std_sget, std_scut, std_ofNat, std_toNat, std_nsub, std_nadd, std_lenOf, std_nz, std_nneg, std_inb, std_upto, std_slt63, std_grow, std_imp, std_impN, std_tr, std_tb, std_ti, std_ts, std_tn, std_tp, std_nmin, std_makes, std_room, std_zeros, std_nilq, std_notq, std_eqi, std_eqn, std_eqb, std_eqs, std_eqv, std_cat, std_lst, std_rset, std_rcopy, std_shift, std_eqr, std_strOf, std_bytesOf, std_isB, std_zOf, zOf_int, std_isI, isI_int, std_getL, std_nmul, std_sOf, sOf_str, std_isS, isS_str, std_fadd, std_fsub, std_fav, std_fsv, std_feq, std_fne, std_flt, std_fle, std_fgt, std_fge, std_fOf, std_fTo, std_fTv, hg] at hc
             exact hc
           obtain ⟨n', hn'⟩ : ∃ n', n' = n + e.am := ⟨_, rfl⟩
           have hinv : n' = tot z (L.take i') := by rw [hi', hnx, if_pos hk, hn']
           have hi'' : i' ≤ L.length := by omega
           rw [← hn'] at hw2
           refine ⟨⟨(i', n'), hi'', hinv⟩, ?_, show L.length - i' < L.length - i by omega⟩
           clear hnx
           cbv
           subst hA
           simp [-List.getD_eq_getElem?_getD, std_add, std_sub, std_mul, std_quo, std_rem, std_band, std_bor, std_bxor, std_shl, std_shr, std_eq, std_ne, std_lt, std_le, std_conv, std_not, std_beq, std_bne, std_ite, std_want, std_and2, std_sadd, std_seq, std_sne, std_slt, std_sle, std_sgt, std_sge, std_slen, std_sget, std_scut, std_ofNat, std_toNat, std_nsub, std_nadd, std_lenOf, std_nz, std_nneg, std_inb, std_upto, std_slt63, std_grow, std_imp, std_impN, std_tr, std_tb, std_ti, std_ts, std_tn, std_tp, std_nmin, std_makes, std_room, std_zeros, std_nilq, std_notq, std_eqi, std_eqn, std_eqb, std_eqs, std_eqv, std_cat, std_lst, std_rset, std_rcopy, std_shift, std_eqr, std_strOf, std_bytesOf, std_isB, std_zOf, zOf_int, std_isI, isI_int, std_getL, std_nmul, std_sOf, sOf_str, std_isS, isS_str, std_fadd, std_fsub, std_fav, std_fsv, std_feq, std_fne, std_flt, std_fle, std_fgt, std_fge, std_fOf, std_fTo, std_fTv, hg]
           rw [hn'] at hw2
           first | exact ⟨hw2.trans hn'.symm, hw⟩ | (rw [hn']; exact ⟨hw2, hw⟩) | trace_state)
        | (obtain ⟨i', hi'⟩ : ∃ i', i' = i + 1 := ⟨_, rfl⟩
           have hw := w_succ' hi' (by omega)
           have hk : ¬e.st = z := by
             clear hnx
             subst hA
             simp [-List.getD_eq_getElem?_getD, std_add, std_sub, std_mul, std_quo, std_rem, std_band, std_bor, std_bxor, std_shl, std_shr, std_eq, std_ne, std_lt, std_le, std_conv, std_not, std_beq, std_bne, std_ite, std_want, std_and2, std_sadd, std_seq, std_sne, std_slt, std_sle, std_sgt, std_sge, std_slen, std_sget, std_scut, std_ofNat, std_toNat, std_nsub, std_nadd, std_lenOf, std_nz, std_nneg, std_inb, std_upto, std_slt63, std_grow, std_imp, std_impN, std_tr, std_tb, std_ti, std_ts, std_tn, std_tp, std_nmin, std_makes, std_room, std_zeros, std_nilq, std_notq, std_eqi, std_eqn, std_eqb, std_eqs, std_eqv, std_cat, std_lst, std_rset, std_rcopy, std_shift, std_eqr, std_strOf, std_bytesOf, std_isB, std_zOf, zOf_int, std_isI, isI_int, std_getL, std_nmul, std_sOf, sOf_str, std_isS, isS_str, std_fadd, std_fsub, std_fav, std_fsv, std_feq, std_fne, std_flt, std_fle, std_fgt, std_fge, std_fOf, std_fTo, std_fTv, hg] at hc
             exact hc
           have hinv : n = tot z (L.take i') := by rw [hi', hnx, if_neg hk]; omega
           have hi'' : i' ≤ L.length := by omega
           refine ⟨⟨(i', n), hi'', hinv⟩, ?_, show L.length - i' < L.length - i by omega⟩
           clear hnx
           cbv
           subst hA
           simp [-List.getD_eq_getElem?_getD, std_add, std_sub, std_mul, std_quo, std_rem, std_band, std_bor, std_bxor, std_shl, std_shr, std_eq, std_ne, std_lt, std_le, std_conv, std_not, std_beq, std_bne, std_ite, std_want, std_and2, std_sadd, std_seq, std_sne, std_slt, std_sle, std_sgt, std_sge, std_slen, std_sget, std_scut, std_ofNat, std_toNat, std_nsub, std_nadd, std_lenOf, std_nz, std_nneg, std_inb, std_upto, std_slt63, std_grow, std_imp, std_impN, std_tr, std_tb, std_ti, std_ts, std_tn, std_tp, std_nmin, std_makes, std_room, std_zeros, std_nilq, std_notq, std_eqi, std_eqn, std_eqb, std_eqs, std_eqv, std_cat, std_lst, std_rset, std_rcopy, std_shift, std_eqr, std_strOf, std_bytesOf, std_isB, std_zOf, zOf_int, std_isI, isI_int, std_getL, std_nmul, std_sOf, sOf_str, std_isS, isS_str, std_fadd, std_fsub, std_fav, std_fsv, std_feq, std_fne, std_flt, std_fle, std_fgt, std_fge, std_fOf, std_fTo, std_fTv, hg]
           first | exact hw | trace_state)
        | trace_state
    · have hie : i = L.length := by omega
      rw [hie, List.take_length] at hz
      clear ha
      cbv
      repeat' (first | with_reducible exact True.intro | with_reducible exact dr_ok hA (by kernel_rfl) | with_reducible refine And.intro ?_ ?_ | (intro hc; cbv))
      all_goals first
        | (exfalso; subst hA; simp [-List.getD_eq_getElem?_getD, std_add, std_sub, std_mul, std_quo, std_rem, std_band, std_bor, std_bxor, std_shl, std_shr, std_eq, std_ne, std_lt, std_le, std_conv, std_not, std_beq, std_bne, std_ite, std_want, std_and2, std_sadd, std_seq, std_sne, std_slt, std_sle, std_sgt, std_sge, std_slen, std_sget, std_scut, std_ofNat, std_toNat, std_nsub, std_nadd, std_lenOf, std_nz, std_nneg, std_inb, std_upto, std_slt63, std_grow, std_imp, std_impN, std_tr, std_tb, std_ti, std_ts, std_tn, std_tp, std_nmin, std_makes, std_room, std_zeros, std_nilq, std_notq, std_eqi, std_eqn, std_eqb, std_eqs, std_eqv, std_cat, std_lst, std_rset, std_rcopy, std_shift, std_eqr, std_strOf, std_bytesOf, std_isB, std_zOf, zOf_int, std_isI, isI_int, std_getL, std_nmul, std_sOf, sOf_str, std_isS, isS_str, std_fadd, std_fsub, std_fav, std_fsv, std_feq, std_fne, std_flt, std_fle, std_fgt, std_fge, std_fOf, std_fTo, std_fTv] at hc; omega)
        | (exfalso; subst hA; rename_i q; simp [-List.getD_eq_getElem?_getD, std_add, std_sub, std_mul, std_quo, std_rem, std_band, std_bor, std_bxor, std_shl, std_shr, std_eq, std_ne, std_lt, std_le, std_conv, std_not, std_beq, std_bne, std_ite, std_want, std_and2, std_sadd, std_seq, std_sne, std_slt, std_sle, std_sgt, std_sge, std_slen, std_sget, std_scut, std_ofNat, std_toNat, std_nsub, std_nadd, std_lenOf, std_nz, std_nneg, std_inb, std_upto, std_slt63, std_grow, std_imp, std_impN, std_tr, std_tb, std_ti, std_ts, std_tn, std_tp, std_nmin, std_makes, std_room, std_zeros, std_nilq, std_notq, std_eqi, std_eqn, std_eqb, std_eqs, std_eqv, std_cat, std_lst, std_rset, std_rcopy, std_shift, std_eqr, std_strOf, std_bytesOf, std_isB, std_zOf, zOf_int, std_isI, isI_int, std_getL, std_nmul, std_sOf, sOf_str, std_isS, isS_str, std_fadd, std_fsub, std_fav, std_fsv, std_feq, std_fne, std_flt, std_fle, std_fgt, std_fge, std_fOf, std_fTo, std_fTv] at q; omega)
        | (exfalso; subst hA; rename_i q q2; simp [-List.getD_eq_getElem?_getD, std_add, std_sub, std_mul, std_quo, std_rem, std_band, std_bor, std_bxor, std_shl, std_shr, std_eq, std_ne, std_lt, std_le, std_conv, std_not, std_beq, std_bne, std_ite, std_want, std_and2, std_sadd, std_seq, std_sne, std_slt, std_sle, std_sgt, std_sge, std_slen, std_sget, std_scut, std_ofNat, std_toNat, std_nsub, std_nadd, std_lenOf, std_nz, std_nneg, std_inb, std_upto, std_slt63, std_grow, std_imp, std_impN, std_tr, std_tb, std_ti, std_ts, std_tn, std_tp, std_nmin, std_makes, std_room, std_zeros, std_nilq, std_notq, std_eqi, std_eqn, std_eqb, std_eqs, std_eqv, std_cat, std_lst, std_rset, std_rcopy, std_shift, std_eqr, std_strOf, std_bytesOf, std_isB, std_zOf, zOf_int, std_isI, isI_int, std_getL, std_nmul, std_sOf, sOf_str, std_isS, isS_str, std_fadd, std_fsub, std_fav, std_fsv, std_feq, std_fne, std_flt, std_fle, std_fgt, std_fge, std_fOf, std_fTo, std_fTv] at q; omega)
        | (subst hA
           simp [-List.getD_eq_getElem?_getD, std_add, std_sub, std_mul, std_quo, std_rem, std_band, std_bor, std_bxor, std_shl, std_shr, std_eq, std_ne, std_lt, std_le, std_conv, std_not, std_beq, std_bne, std_ite, std_want, std_and2, std_sadd, std_seq, std_sne, std_slt, std_sle, std_sgt, std_sge, std_slen, std_sget, std_scut, std_ofNat, std_toNat, std_nsub, std_nadd, std_lenOf, std_nz, std_nneg, std_inb, std_upto, std_slt63, std_grow, std_imp, std_impN, std_tr, std_tb, std_ti, std_ts, std_tn, std_tp, std_nmin, std_makes, std_room, std_zeros, std_nilq, std_notq, std_eqi, std_eqn, std_eqb, std_eqs, std_eqv, std_cat, std_lst, std_rset, std_rcopy, std_shift, std_eqr, std_strOf, std_bytesOf, std_isB, std_zOf, zOf_int, std_isI, isI_int, std_getL, std_nmul, std_sOf, sOf_str, std_isS, isS_str, std_fadd, std_fsub, std_fav, std_fsv, std_feq, std_fne, std_flt, std_fle, std_fgt, std_fge, std_fOf, std_fTo, std_fTv, ← hz] at *
           first | done | trace_state)
        | trace_state
noncomputable def c_rTotal : Ct := fun A args => match args with
  | [.agg [.slc n 4 f], .int .i64 z] => some (some (A.tp fun _ => isRow eH H0 4 n f ∧ n ≤ 1000 ∧ ∀ e ∈ lstOf eH H0 4 n f, amOk e), .int .u64 (A.ti fun _ => tot z (lstOf eH H0 4 n f)))
  | _ => none
noncomputable def gz6 : Ar → Pu := addC 64 c_rTotal (gz5)
theorem gz6_ok : PuOk Tryd.prog gl0 (gz6 std) := by
  refine addC_ok (gz5_ok) ⟨_, Tryd.func64, rfl, by decide⟩ ?_
  · intro args p r h hp
    unfold c_rTotal at h
    split at h <;> cases h
    exact good_sv (good_rTotal _ _ (by rw [lstOf_length hp.1]; exact hp.2.1) hp.2.2) ⟨⟨_, rfl, hp.1.sv, trivial⟩, rfl, trivial⟩
end Go.Vd

set_option linter.unusedVariables false
set_option linter.unusedSimpArgs false
set_option maxRecDepth 100000
set_option maxHeartbeats 8000000
namespace Go.Vd
open Go.Proofs
noncomputable def c_rPlacep : Ct := fun A args => match args with
  | [.agg [.slc n 4 f], .agg [.int .u32 s, .str r]] => some (some (A.tp fun _ => isRow eH H0 4 n f ∧ n ≤ 1000000), .int .i64 (A.ti fun _ => plc (lstOf eH H0 4 n f) s r))
  | _ => none
noncomputable def gz7 : Ar → Pu := addC 60 c_rPlacep (gz6)
theorem gz7_ok : PuOk Tryd.prog gl0 (gz7 std) := by
  refine addC_ok (gz6_ok) ⟨_, Tryd.func60, rfl, by decide⟩ ?_
  · intro args p r h hp
    unfold c_rPlacep at h
    split at h <;> cases h
    exact good_sv (good_rPlace _ _ _ (by rw [lstOf_length hp.1]; exact hp.2)) ⟨⟨_, rfl, hp.1.sv, trivial⟩, ⟨_, rfl, rfl, rfl, trivial⟩, trivial⟩
def doneS (A : Ar) (L : Unit → List Hld) (k a s : Int) (p r c : List UInt8) (ok : Bool) : SV :=
  .agg [rowS eH H0 4 A fun _ => lgL (L ()) k a s p r c ok, .int .i64 (A.ti fun _ => if lgE (L ()) k a s p r c = 0 then (if k = 1 then 2 else 7) else 0), .str [], .int .u64 0, .int .u32 (A.ti fun _ => if lgE (L ()) k a s p r c = 0 then s else 0), .str (A.ts fun _ => if lgE (L ()) k a s p r c = 0 then r else []), .str (A.ts fun _ => if lgE (L ()) k a s p r c = 0 then doC (L ()) k a s r ok else []), .int .i64 (A.ti fun _ => lgE (L ()) k a s p r c)]
section
variable {L : List Hld} {k a s : Int} {p r c : List UInt8} {ok : Bool}
theorem q_kind (h : (bif bif k != 1 then k != 5 else false then k != 6 else false) = false) : k = 1 ∨ k = 5 ∨ k = 6 := by
  by_cases h1 : k = 1
  · exact .inl h1
  · by_cases h5 : k = 5
    · exact .inr (.inl h5)
    · by_cases h6 : k = 6
      · exact .inr (.inr h6)
      · have e1 : (k != 1) = true := by simpa using h1
        have e5 : (k != 5) = true := by simpa using h5
        have e6 : (k != 6) = true := by simpa using h6
        rw [e1, e5, e6] at h
        cases h
theorem q_kind3 (h : (bif bif k != 1 then k != 5 else false then k != 6 else false) = true) : (k == 1) = false ∧ (k == 5) = false ∧ (k == 6) = false := by
  cases h1 : k == 1
  · cases h5 : k == 5
    · cases h6 : k == 6
      · exact ⟨rfl, rfl, rfl⟩
      · simp [bne, h6] at h
    · simp [bne, h5] at h
  · simp [bne, h1] at h
theorem q_full (hr : leR L = true) (h : (bif !has L s r then ((L.length : Nat) : Int) == 256 else false) = true) : has L s r = false ∧ decide ((256 : Int) ≤ ((L.length : Nat) : Int)) = true := by
  cases h1 : has L s r
  · rw [h1] at h
    simp at h
    exact ⟨rfl, decide_eq_true (by omega)⟩
  · rw [h1] at h
    cases h
theorem q_room (hr : leR L = true) (hh : has L s r = false) (h : (bif !has L s r then ((L.length : Nat) : Int) == 256 else false) = false) : decide ((256 : Int) ≤ ((L.length : Nat) : Int)) = false := by
  rw [hh] at h
  simp at h
  have := (leR_asc hr).2
  exact decide_eq_false (by omega)
theorem rd_full (h0 : (bif !leR L then true else !dR k a s p r c) = false) (hk : k = 1 ∨ k = 5 ∨ k = 6) (h : (bif !has L s r then ((L.length : Nat) : Int) == 256 else false) = true) : lgL L k a s p r c ok = L ∧ lgE L k a s p r c = 0 ∧ doC L k a s r ok = [57, 54] := by
  obtain ⟨hh, hf⟩ := q_full (lg_ok h0).1 h
  by_cases h1 : (k == 1) = true
  · obtain ⟨_, e1, e2, e3⟩ := lg_1n (ok := ok) h0 h1 hh
    rw [(opn_full (e := _) (x := []) hf).1] at e1
    rw [(opn_full (e := H0) (x := _) hf).2] at e3
    exact ⟨e1, e2, e3⟩
  · have h1 : (k == 1) = false := by simpa using h1
    have h5 : (k == 5) = true ∨ (k == 6) = true := by simp at h1 ⊢; omega
    obtain ⟨_, e1, e2, e3⟩ := lg_5n (ok := ok) h0 h1 h5 hh
    rw [(opn_full (e := _) (x := []) hf).1] at e1
    rw [(opn_full (e := H0) (x := _) hf).2] at e3
    exact ⟨e1, e2, e3⟩
theorem q_5 (hk : k = 1 ∨ k = 5 ∨ k = 6) (h1 : (k != 1) = true) : (k == 1) = false ∧ ((k == 5) = true ∨ (k == 6) = true) := by
  simp at h1 ⊢
  omega
theorem putR_ins {e : Hld} (hr : leR L = true) (hh : has L e.s e.r = false) : putR e L false = insH L e := put_ins hr hh
theorem rd_gv (h0 : (bif !leR L then true else !dR k a s p r c) = false) (hk : k = 1 ∨ k = 5 ∨ k = 6) (h1 : (k != 1) = true) (hh : has L s r = true) :
    lgL L k a s p r c ok = putR { s := s, r := r, am := (L.getD (plc L s r).toNat { s := 0, r := [], am := 0, st := 0 }).am, st := 3 } L false ∧ lgE L k a s p r c = 0 ∧ doC L k a s r ok = [48, 48] := by
  obtain ⟨g1, g5⟩ := q_5 hk h1
  obtain ⟨_, e1, e2, e3⟩ := lg_5h (ok := ok) h0 g1 g5 hh
  refine ⟨?_, e2, e3⟩
  have hr := (lg_ok h0).1
  have h3 := plc_pos hr hh
  have h4 := put_sw hr (e := ⟨s, r, (L.getD (plc L s r).toNat H0).am, 3⟩) hh
  have hk := (has_pos ((ascB_iff L).1 (leR_asc hr).1) hh).2
  obtain ⟨k1, k2⟩ := kE_iff.1 hk
  rw [e1]
  refine Eq.trans ?_ h4.symm
  show gvH L (pos L s r) = L.set (pos L s r) _
  unfold gvH
  rw [h3, Int.toNat_natCast, k1, k2]
theorem rd_op3 (h0 : (bif !leR L then true else !dR k a s p r c) = false) (hk : k = 1 ∨ k = 5 ∨ k = 6) (h1 : (k != 1) = true) (hh : has L s r = false) (h : (bif !has L s r then ((L.length : Nat) : Int) == 256 else false) = false) :
    lgL L k a s p r c ok = putR { s := s, r := r, am := a, st := 3 } L false ∧ lgE L k a s p r c = 0 ∧ doC L k a s r ok = [48, 48] := by
  obtain ⟨g1, g5⟩ := q_5 hk h1
  have hr := (lg_ok h0).1
  have hf := q_room hr hh h
  obtain ⟨_, e1, e2, e3⟩ := lg_5n (ok := ok) h0 g1 g5 hh
  rw [(opn_room (e := _) (x := []) hf).1] at e1
  rw [(opn_room (e := H0) (x := _) hf).2] at e3
  exact ⟨e1.trans (putR_ins (e := ⟨s, r, a, 3⟩) hr hh).symm, e2, e3⟩
theorem q_1 (h1 : (k != 1) = false) : (k == 1) = true := by simpa [bne] using h1
theorem rd_1h (h0 : (bif !leR L then true else !dR k a s p r c) = false) (h1 : (k != 1) = false) (hh : has L s r = true) :
    lgL L k a s p r c ok = L ∧ lgE L k a s p r c = 0 ∧ doC L k a s r ok = agC (L.getD (plc L s r).toNat { s := 0, r := [], am := 0, st := 0 }).am (L.getD (plc L s r).toNat { s := 0, r := [], am := 0, st := 0 }).st a := by
  obtain ⟨_, e1, e2, e3⟩ := lg_1h (ok := ok) h0 (q_1 h1) hh
  have h3 := plc_pos (lg_ok h0).1 hh
  rw [h3, Int.toNat_natCast]
  exact ⟨e1, e2, e3⟩
theorem rd_1n (h0 : (bif !leR L then true else !dR k a s p r c) = false) (h1 : (k != 1) = false) (hh : has L s r = false) (h : (bif !has L s r then ((L.length : Nat) : Int) == 256 else false) = false) :
    lgL L k a s p r c ok = putR { s := s, r := r, am := a, st := if ok = true then 1 else 2 } L false ∧ lgE L k a s p r c = 0 ∧ doC L k a s r ok = if ok = true then [48, 48] else [48, 53] := by
  have hr := (lg_ok h0).1
  have hf := q_room hr hh h
  obtain ⟨_, e1, e2, e3⟩ := lg_1n (ok := ok) h0 (q_1 h1) hh
  rw [(opn_room (e := _) (x := []) hf).1] at e1
  rw [(opn_room (e := H0) (x := _) hf).2] at e3
  exact ⟨e1.trans (putR_ins (e := ⟨s, r, a, if ok = true then 1 else 2⟩) hr hh).symm, e2, e3⟩
theorem ag_1 {m t : Int} (h : (t != 1) = true) : agC m t a = [48, 53] := by
  simp at h
  unfold agC
  rw [if_pos h]
theorem ag_2 {m t : Int} (h : (t != 1) = false) (h2 : (m != a) = true) : agC m t a = [57, 52] := by
  simp at h h2
  unfold agC
  rw [if_neg (by omega), if_pos h2]
theorem ag_3 {m t : Int} (h : (t != 1) = false) (h2 : (m != a) = false) : agC m t a = [48, 48] := by
  simp at h h2
  unfold agC
  rw [if_neg (by omega), if_neg (by omega)]
theorem q_idx (h0 : (bif !leR L then true else !dR k a s p r c) = false) (hh : has L s r = true) : 0 ≤ plc L s r ∧ plc L s r < ((L.length : Nat) : Int) := by
  have h3 := plc_pos (lg_ok h0).1 hh
  have h4 := lg_pos h0 hh
  omega
end
attribute [local irreducible] vc
theorem good_rDoL (L : List Hld) (k a s : Int) (p r c : List UInt8) (ok : Bool) (hL : L.length ≤ 1000000) (hS : ∀ i, hT (L.getD i H0)) (hp : p.length ≤ 100000) (hr : r.length ≤ 1000000) (hc0 : c.length ≤ 1000000) : GoodP Tryd.prog gl0 62 [sL std fun _ => L, .agg [.int .i64 k, .str p, .int .u64 a, .int .u32 s, .str r, .str c], .bool ok] (doneS std (fun _ => L) k a s p r c ok) := by
  refine fn_sound' (T := seatT) (G := gz7) (X := noX) seatT_ok gz7_ok noX_ok noI_ok mixed Tryd.func62 (.one) (fun A => [sL A fun _ => L, .agg [.int .i64 k, .str p, .int .u64 a, .int .u32 s, .str r, .str c], .bool ok]) (fun A => doneS A (fun _ => L) k a s p r c ok) fun A hA => ?_
  cbv
  repeat' (first | with_reducible exact True.intro | with_reducible exact dr_ok hA (by kernel_rfl) | with_reducible refine And.intro ?_ ?_ | (intro hc; cbv))
  all_goals (subst hA; simp only [std_add, std_sub, std_mul, std_quo, std_rem, std_band, std_bor, std_bxor, std_shl, std_shr, std_eq, std_ne, std_lt, std_le, std_conv, std_not, std_beq, std_bne, std_ite, std_want, std_and2, std_sadd, std_seq, std_sne, std_slt, std_sle, std_sgt, std_sge, std_slen, std_sget, std_scut, std_ofNat, std_toNat, std_nsub, std_nadd, std_lenOf, std_nz, std_nneg, std_inb, std_upto, std_slt63, std_grow, std_imp, std_impN, std_tr, std_tb, std_ti, std_ts, std_tn, std_tp, std_nmin, std_makes, std_room, std_zeros, std_nilq, std_notq, std_eqi, std_eqn, std_eqb, std_eqs, std_eqv, std_cat, std_lst, std_rset, std_rcopy, std_shift, std_eqr, std_strOf, std_bytesOf, std_isB, std_zOf, zOf_int, std_isI, isI_int, std_getL, std_nmul, std_sOf, sOf_str, std_isS, isS_str, std_fadd, std_fsub, std_fav, std_fsv, std_feq, std_fne, std_flt, std_fle, std_fgt, std_fge, std_fOf, std_fTo, std_fTv, lstOf_V, isRow_V, plc_has, plc_lt] at *)
  all_goals first
    | exact ⟨trivial, hL⟩
    | exact ⟨trivial, hL, hS⟩
    | exact id
    | (intro h; exact ⟨h, hp, hr, hc0⟩)
    | (intro h; rw [h]; rfl)
    | skip
  all_goals first
    | (have hb : (bif !leR L then true else !dR k a s p r c) = true := by assumption
       have hz := lg_bad (ok := ok) hb
       have e1 := hz.1
       have e2 := hz.2
       first | (rw [e1]; done) | (rw [e1]; exact (Reps.lit L).eqr) | (rw [e2]; done) | (rw [e2]; rfl))
    | (have q1 : (k == 1) = true := by assumption
       have q2 : (k != 1) = true := by assumption
       exfalso
       simp at q1 q2
       omega)
    | (have q1 : (k == 1) = false := by assumption
       have q2 : (k != 1) = false := by assumption
       exfalso
       simp at q1 q2
       omega)
    | skip
  all_goals
    have h0 : (bif !leR L then true else !dR k a s p r c) = false := by assumption
  all_goals first
    | (have h1 : (bif bif k != 1 then k != 5 else false then k != 6 else false) = true := by assumption
       obtain ⟨g1, g2, g3⟩ := q_kind3 h1
       obtain ⟨e1, e2⟩ := lg_3 (ok := ok) h0 g1 g2 g3
       first | (rw [e1]; done) | (rw [e1]; exact (Reps.lit L).eqr) | (rw [e2]; done) | (rw [e2]; rfl))
    | skip
  all_goals first
    | (have hh : has L s r = true := by assumption
       exact q_idx h0 hh)
    | skip
  all_goals
    have hkd : (bif bif k != 1 then k != 5 else false then k != 6 else false) = false := by assumption
    have hk3 := q_kind hkd
  all_goals first
    | (have hk : k = 1 := by
         have q1 : (k == 1) = true := by assumption
         simpa using q1
       first
         | (have hf : (bif !has L s r then ((L.length : Nat) : Int) == 256 else false) = true := by assumption
            obtain ⟨e1, e2, e3⟩ := rd_full (ok := ok) h0 hk3 hf
            first | (rw [e1]; done) | (rw [e1]; exact (Reps.lit _).eqr) | (rw [e2]; done) | (rw [e2]; rfl) | (rw [e2, if_pos rfl]; done) | (rw [e2, if_pos rfl, if_pos hk]; done) | (rw [e2, if_pos rfl, if_neg hk]; done) | (rw [e2, if_pos rfl, e3]; done) | (rw [e2, if_pos rfl, e3]; rfl))
         | (have h1 : (k != 1) = false := by assumption
            have hh : has L s r = true := by assumption
            obtain ⟨e1, e2, e3⟩ := rd_1h (ok := ok) h0 h1 hh
            first
              | (have t1 : ((L.getD (plc L s r).toNat { s := 0, r := [], am := 0, st := 0 }).st != 1) = true := by assumption
                 rw [ag_1 t1] at e3
                 first | (rw [e1]; done) | (rw [e1]; exact (Reps.lit _).eqr) | (rw [e2]; done) | (rw [e2]; rfl) | (rw [e2, if_pos rfl]; done) | (rw [e2, if_pos rfl, if_pos hk]; done) | (rw [e2, if_pos rfl, if_neg hk]; done) | (rw [e2, if_pos rfl, e3]; done) | (rw [e2, if_pos rfl, e3]; rfl))
              | (have t1 : ((L.getD (plc L s r).toNat { s := 0, r := [], am := 0, st := 0 }).st != 1) = false := by assumption
                 have t2 : ((L.getD (plc L s r).toNat { s := 0, r := [], am := 0, st := 0 }).am != a) = true := by assumption
                 rw [ag_2 t1 t2] at e3
                 first | (rw [e1]; done) | (rw [e1]; exact (Reps.lit _).eqr) | (rw [e2]; done) | (rw [e2]; rfl) | (rw [e2, if_pos rfl]; done) | (rw [e2, if_pos rfl, if_pos hk]; done) | (rw [e2, if_pos rfl, if_neg hk]; done) | (rw [e2, if_pos rfl, e3]; done) | (rw [e2, if_pos rfl, e3]; rfl))
              | (have t1 : ((L.getD (plc L s r).toNat { s := 0, r := [], am := 0, st := 0 }).st != 1) = false := by assumption
                 have t2 : ((L.getD (plc L s r).toNat { s := 0, r := [], am := 0, st := 0 }).am != a) = false := by assumption
                 rw [ag_3 t1 t2] at e3
                 first | (rw [e1]; done) | (rw [e1]; exact (Reps.lit _).eqr) | (rw [e2]; done) | (rw [e2]; rfl) | (rw [e2, if_pos rfl]; done) | (rw [e2, if_pos rfl, if_pos hk]; done) | (rw [e2, if_pos rfl, if_neg hk]; done) | (rw [e2, if_pos rfl, e3]; done) | (rw [e2, if_pos rfl, e3]; rfl)))
         | (have h1 : (k != 1) = false := by assumption
            have hh : has L s r = false := by assumption
            have hf : (bif !has L s r then ((L.length : Nat) : Int) == 256 else false) = false := by assumption
            obtain ⟨e1, e2, e3⟩ := rd_1n (ok := ok) h0 h1 hh hf
            subst ok
            first | (rw [e1]; rfl) | (rw [e1]; exact (Reps.lit _).eqr) | first | (rw [e1]; done) | (rw [e1]; exact (Reps.lit _).eqr) | (rw [e2]; done) | (rw [e2]; rfl) | (rw [e2, if_pos rfl]; done) | (rw [e2, if_pos rfl, if_pos hk]; done) | (rw [e2, if_pos rfl, if_neg hk]; done) | (rw [e2, if_pos rfl, e3]; done) | (rw [e2, if_pos rfl, e3]; rfl))
         | trace_state)
    | (have hk : ¬k = 1 := by
         have q1 : (k == 1) = false := by assumption
         simpa using q1
       first
         | (have hf : (bif !has L s r then ((L.length : Nat) : Int) == 256 else false) = true := by assumption
            obtain ⟨e1, e2, e3⟩ := rd_full (ok := ok) h0 hk3 hf
            first | (rw [e1]; done) | (rw [e1]; exact (Reps.lit _).eqr) | (rw [e2]; done) | (rw [e2]; rfl) | (rw [e2, if_pos rfl]; done) | (rw [e2, if_pos rfl, if_pos hk]; done) | (rw [e2, if_pos rfl, if_neg hk]; done) | (rw [e2, if_pos rfl, e3]; done) | (rw [e2, if_pos rfl, e3]; rfl))
         | (have h1 : (k != 1) = true := by assumption
            have hh : has L s r = true := by assumption
            obtain ⟨e1, e2, e3⟩ := rd_gv (ok := ok) h0 hk3 h1 hh
            first | (rw [e1]; done) | (rw [e1]; exact (Reps.lit _).eqr) | (rw [e2]; done) | (rw [e2]; rfl) | (rw [e2, if_pos rfl]; done) | (rw [e2, if_pos rfl, if_pos hk]; done) | (rw [e2, if_pos rfl, if_neg hk]; done) | (rw [e2, if_pos rfl, e3]; done) | (rw [e2, if_pos rfl, e3]; rfl))
         | (have h1 : (k != 1) = true := by assumption
            have hh : has L s r = false := by assumption
            have hf : (bif !has L s r then ((L.length : Nat) : Int) == 256 else false) = false := by assumption
            obtain ⟨e1, e2, e3⟩ := rd_op3 (ok := ok) h0 hk3 h1 hh hf
            first | (rw [e1]; done) | (rw [e1]; exact (Reps.lit _).eqr) | (rw [e2]; done) | (rw [e2]; rfl) | (rw [e2, if_pos rfl]; done) | (rw [e2, if_pos rfl, if_pos hk]; done) | (rw [e2, if_pos rfl, if_neg hk]; done) | (rw [e2, if_pos rfl, e3]; done) | (rw [e2, if_pos rfl, e3]; rfl))
         | trace_state)
    | trace_state
noncomputable def c_rDoL : Ct := fun A args => match args with
  | [.agg [.slc n 4 f], .agg [.int .i64 k, .str p, .int .u64 a, .int .u32 s, .str r, .str c], .bool ok] => some (some (A.tp fun _ => (isRow eH H0 4 n f ∧ n ≤ 1000000 ∧ ∀ i, hT ((lstOf eH H0 4 n f).getD i H0)) ∧ p.length ≤ 100000 ∧ r.length ≤ 1000000 ∧ c.length ≤ 1000000), doneS A (fun _ => lstOf eH H0 4 n f) k a s p r c ok)
  | _ => none
noncomputable def gz8 : Ar → Pu := addC 62 c_rDoL (gz7)
theorem gz8_ok : PuOk Tryd.prog gl0 (gz8 std) := by
  refine addC_ok (gz7_ok) ⟨_, Tryd.func62, rfl, by decide⟩ ?_
  · intro args p r h hp
    unfold c_rDoL at h
    split at h <;> cases h
    exact good_sv (good_rDoL _ _ _ _ _ _ _ _ (by rw [lstOf_length hp.1.1]; exact hp.1.2.1) hp.1.2.2 hp.2.1 hp.2.2.1 hp.2.2.2) ⟨⟨_, rfl, hp.1.1.sv, trivial⟩, ⟨_, rfl, rfl, rfl, rfl, rfl, rfl, rfl, trivial⟩, rfl, trivial⟩
end Go.Vd

set_option linter.unusedVariables false
set_option linter.unusedSimpArgs false
set_option maxRecDepth 100000
set_option maxHeartbeats 8000000
namespace Go.Vd
open Go.Proofs Ieee
noncomputable def c_kShortq : Ct := fun A args => match args with
  | [.agg [.int .u32 s, .str r]] => some (none, .bool (A.tb fun _ => decide (r.length ≤ 300)))
  | _ => none
noncomputable def c_rRightLq : Ct := fun A args => match args with
  | [.agg [.slc n 4 f]] => some (some (A.tp fun _ => isRow eH H0 4 n f ∧ n ≤ 1000000 ∧ ∀ i, hT ((lstOf eH H0 4 n f).getD i H0)), .bool (A.tb fun _ => leR (lstOf eH H0 4 n f)))
  | _ => none
noncomputable def c_rPlaceq : Ct := fun A args => match args with
  | [.agg [.slc n 4 f], .agg [.int .u32 s, .str r]] => some (some (A.tp fun _ => isRow eH H0 4 n f ∧ n ≤ 1000000), .int .i64 (A.ti fun _ => plc (lstOf eH H0 4 n f) s r))
  | _ => none
noncomputable def c_rTotalq : Ct := fun A args => match args with
  | [.agg [.slc n 4 f], .int .i64 z] => some (some (A.tp fun _ => isRow eH H0 4 n f ∧ n ≤ 1000 ∧ ∀ e ∈ lstOf eH H0 4 n f, amOk e), .int .u64 (A.ti fun _ => tot z (lstOf eH H0 4 n f)))
  | _ => none
noncomputable def c_rDoLq : Ct := fun A args => match args with
  | [.agg [.slc n 4 f], .agg [.int .i64 k, .str p, .int .u64 a, .int .u32 s, .str r, .str c], .bool ok] => some (some (A.tp fun _ => (isRow eH H0 4 n f ∧ n ≤ 1000000 ∧ ∀ i, hT ((lstOf eH H0 4 n f).getD i H0)) ∧ p.length ≤ 100000 ∧ r.length ≤ 1000000 ∧ c.length ≤ 1000000), doneS A (fun _ => lstOf eH H0 4 n f) k a s p r c ok)
  | _ => none
noncomputable def gyA : Ar → Pu := addC 43 c_kShortq (addC 63 c_rRightLq (addC 60 c_rPlaceq (addC 64 c_rTotalq (addC 62 c_rDoLq (gy9)))))
theorem gyA_ok : PuOk Tryd.prog gl0 (gyA std) := by
  refine addC_ok (addC_ok (addC_ok (addC_ok (addC_ok (gy9_ok) ⟨_, Tryd.func62, rfl, by decide⟩ ?_) ⟨_, Tryd.func64, rfl, by decide⟩ ?_) ⟨_, Tryd.func60, rfl, by decide⟩ ?_) ⟨_, Tryd.func63, rfl, by decide⟩ ?_) ⟨_, Tryd.func43, rfl, by decide⟩ ?_
  · intro args p r h hp
    unfold c_rDoLq at h
    split at h <;> cases h
    exact good_sv (good_rDoL _ _ _ _ _ _ _ _ (by rw [lstOf_length hp.1.1]; exact hp.1.2.1) hp.1.2.2 hp.2.1 hp.2.2.1 hp.2.2.2) ⟨⟨_, rfl, hp.1.1.sv, trivial⟩, ⟨_, rfl, rfl, rfl, rfl, rfl, rfl, rfl, trivial⟩, rfl, trivial⟩
  · intro args p r h hp
    unfold c_rTotalq at h
    split at h <;> cases h
    exact good_sv (good_rTotal _ _ (by rw [lstOf_length hp.1]; exact hp.2.1) hp.2.2) ⟨⟨_, rfl, hp.1.sv, trivial⟩, rfl, trivial⟩
  · intro args p r h hp
    unfold c_rPlaceq at h
    split at h <;> cases h
    exact good_sv (good_rPlace _ _ _ (by rw [lstOf_length hp.1]; exact hp.2)) ⟨⟨_, rfl, hp.1.sv, trivial⟩, ⟨_, rfl, rfl, rfl, trivial⟩, trivial⟩
  · intro args p r h hp
    unfold c_rRightLq at h
    split at h <;> cases h
    exact good_sv (good_rRightL _ (by rw [lstOf_length hp.1]; exact hp.2.1) hp.2.2) ⟨⟨_, rfl, hp.1.sv, trivial⟩, trivial⟩
  · intro args p r h hp
    unfold c_kShortq at h
    split at h <;> cases h
    exact good_kShort _ _
theorem sum_eq {L : List Hld} (h : leR L = true) (hN : ∀ e ∈ L, 0 ≤ e.am) : (double.order (suW L).1 (FloatKind.f64.nearest (tot 1 L)) = some .eq ∧ double.order (suW L).2 (FloatKind.f64.nearest (tot 3 L)) = some .eq) := by
  obtain ⟨⟨h1, h2⟩, h3, h4⟩ := hsum_isZ (L := L) (by have := leR_len h; omega) (leR_am h hN)
  rw [suW_yes h, isZ_order h1 (isZ_fOf (by omega)), isZ_order h2 (isZ_fOf (by omega))]
  simp
theorem sum_eq0 {L : List Hld} (h : leR L = false) : (double.order (suW L).1 0 = some .eq ∧ double.order (suW L).2 0 = some .eq) := by
  rw [suW_no h]
  have := isZ_order isZ_zero isZ_zero
  rw [this]
  simp
theorem shL_hT {L : List Hld} (h : shL L = true) (i : Nat) : hT (L.getD i H0) := by
  rcases Nat.lt_or_ge i L.length with q | q
  · have := (shL_iff.1 h).2 _ (getD_mem q)
    simp only [shE, decide_eq_true_eq] at this
    unfold hT
    omega
  · rw [List.getD_eq_getElem?_getD, List.getElem?_eq_none q]
    show (0 : Nat) ≤ 1000000
    omega
theorem lr_ok {a b c : Bool} (h : (bif bif !a then true else !b then true else !c) = false) : a = true ∧ b = true ∧ c = true := by
  cases a <;> cases b <;> cases c <;> simp at h ⊢
theorem fnd_hasno {L : List Hld} {s : Int} {r : List UInt8} (h : has L s r = false) : fnd L s r = H0 := by
  unfold fnd
  unfold has at h
  rw [List.find?_eq_none.2 fun x hx => by rw [List.any_eq_false] at h; exact h x hx]
  rfl
attribute [local irreducible] vc
theorem good_LedgerRight (L : List Hld) (k a s so : Int) (p r c ro : List UInt8) (ok : Bool) (hL : L.length ≤ 9223372036854775807) (hN : ∀ e ∈ L, 0 ≤ e.am) : GoodP Tryd.prog gl0 12 [sL std fun _ => L, .agg [.int .i64 k, .str p, .int .u64 a, .int .u32 s, .str r, .str c], .bool ok, .agg [.int .u32 so, .str ro]] (.bool true) := by
  refine fn_sound' (T := seatT) (G := gyA) (X := noX) seatT_ok gyA_ok noX_ok noI_ok mixed Tryd.func12 (.one) (fun A => [sL A fun _ => L, .agg [.int .i64 k, .str p, .int .u64 a, .int .u32 s, .str r, .str c], .bool ok, .agg [.int .u32 so, .str ro]]) (fun A => .bool true) fun A hA => ?_
  cbv
  repeat' (first | with_reducible exact True.intro | with_reducible exact dr_ok hA (by kernel_rfl) | with_reducible refine And.intro ?_ ?_ | (intro hc; cbv))
  all_goals (subst hA; try simp only [std_add, std_sub, std_mul, std_quo, std_rem, std_band, std_bor, std_bxor, std_shl, std_shr, std_eq, std_ne, std_lt, std_le, std_conv, std_not, std_beq, std_bne, std_ite, std_want, std_and2, std_sadd, std_seq, std_sne, std_slt, std_sle, std_sgt, std_sge, std_slen, std_sget, std_scut, std_ofNat, std_toNat, std_nsub, std_nadd, std_lenOf, std_nz, std_nneg, std_inb, std_upto, std_slt63, std_grow, std_imp, std_impN, std_tr, std_tb, std_ti, std_ts, std_tn, std_tp, std_nmin, std_makes, std_room, std_zeros, std_nilq, std_notq, std_eqi, std_eqn, std_eqb, std_eqs, std_eqv, std_cat, std_lst, std_rset, std_rcopy, std_shift, std_eqr, std_strOf, std_bytesOf, std_isB, std_zOf, zOf_int, std_isI, isI_int, std_getL, std_nmul, std_sOf, sOf_str, std_isS, isS_str, std_fadd, std_fsub, std_fav, std_fsv, std_feq, std_fne, std_flt, std_fle, std_fgt, std_fge, std_fOf, std_fTo, std_fTv, lstOf_V, isRow_V, plc_has] at *)
  all_goals first
    | exact ⟨trivial, hL⟩
    | (exfalso; revert hc; decide)
    | exact id
    | (intro h; rw [h]; rfl)
    | (intro h; exact ⟨h, h⟩)
    | (intro h; exact ⟨h, trivial, hL⟩)
    | skip
  all_goals
    have hv0 : (bif bif !shL L then true else !decide (p.length ≤ 300 ∧ r.length ≤ 300 ∧ c.length ≤ 300) then true else !decide (ro.length ≤ 300)) = false := by assumption
    have hv := lr_ok hv0
    have hv2 : p.length ≤ 300 ∧ r.length ≤ 300 ∧ c.length ≤ 300 := of_decide_eq_true hv.2.1
    have hl := shL_len hv.1
    have hl2 := lgL_len L k a s p r c ok
    have hT0 := shL_hT hv.1
  all_goals first
    | exact ⟨trivial, by omega⟩
    | exact ⟨⟨trivial, by omega⟩, by omega, by omega, by omega⟩
    | exact ⟨⟨trivial, by omega, hT0⟩, by omega, by omega, by omega⟩
    | exact ⟨trivial, by omega, hT0⟩
    | exact ⟨trivial, by omega, leR_am hc hN⟩
    | exact ⟨trivial, by omega, hN⟩
    | (intro h; exact ⟨h, trivial, by omega, hN⟩)
    | (intro h; exact ⟨⟨h, h⟩, ⟨trivial, trivial⟩, by omega⟩)
    | (have hL1 : leR L = true := hc
       have hs := sum_eq hL1 hN
       clear hN hT0 hv0 hv hv2
       simp [hL1, hs.1, hs.2]
       done)
    | (have hL1 : leR L = false := hc
       have hs := sum_eq0 hL1
       clear hN hT0 hv0 hv hv2
       simp [hL1, hs.1, hs.2]
       done)
    | (clear hN hT0 hv0 hv hv2
       cases hh : has L so ro
       · have hf : fnd L so ro = { s := 0, r := [], am := 0, st := 0 } := fnd_hasno hh
         simp [hh, hf] at *
         done
       · obtain ⟨i, hi, hpl, hf0⟩ := plc_fnd hh
         have hf : fnd L so ro = L.getD i { s := 0, r := [], am := 0, st := 0 } := hf0
         clear hf0
         first
           | (simp [hh, hf, hpl] at *; done)
           | (simp [hh, hf, hpl] at *; omega))
    | trace_state
end Go.Vd

set_option linter.unusedVariables false
namespace Go.Vd
open Go.Proofs Go.ChangeShapes Go.WideShapes Go.ChangeAt Go.RowKit Go.Joins Go.Deep Go.WideElems
theorem u16_wf {z : Int} (h : (Lit.int .u16 z).wf = true) : 0 ≤ z ∧ z < 65536 := by
  simp [Lit.wf] at h
  have e1 : IntKind.u16.min = 0 := by decide
  have e2 : IntKind.u16.max = 65535 := by decide
  rw [e1, e2] at h
  exact ⟨h.1, by omega⟩
section
variable {H : Type} {enc : TypeId × Value → H} {P : Program}
theorem open_eB_trod {W : World} {t e : TypeId} {v : Value} {fuel : Nat} {x : DataW H × List MemPlace} (ht : P.underlying t = some (.slice e)) (he : P.underlying e = some (.int .u8)) (hc : P.cellsOf e = 1)
    (h : DataW.trod enc P W 0 (fun _ => true) true fuel t [v] = some x) : ∃ L : List UInt8, L.length ≤ maxLen ∧ one v ∧ RelC W (fun _ => False) v (rowS eB 0 1 std fun _ => L) := by
  rcases open_ints ht he hc h with ⟨hcs, hx⟩ | ⟨a, len, cap, zs, hcs, _, hl, hm, hz, hx, hcell, hwz⟩
  · simp only [List.cons.injEq, and_true] at hcs
    subst hcs
    exact ⟨[], Nat.zero_le _, rfl, .slc none 0 0 1 _ (fun _ _ => undef) (Nat.le_refl _) (fun i j hi => absurd hi (by omega)) (fun h => absurd h (by omega)) (fun i j hi => absurd hi (by omega))⟩
  · simp only [List.cons.injEq, and_true] at hcs
    subst hcs
    simp only [if_true] at hz
    have hlen : ((zs.take len).map fun n => UInt8.ofNat n.toNat).length = len := by simp; omega
    refine ⟨(zs.take len).map fun n => UInt8.ofNat n.toNat, by rw [hlen]; omega, rfl, ?_⟩
    show RelC W (fun _ => False) _ (.slc ((zs.take len).map fun n => UInt8.ofNat n.toNat).length 1 (rowF eB 0 std fun _ => (zs.take len).map fun n => UInt8.ofNat n.toNat))
    rw [hlen]
    refine .slc (some a) len cap 1 _ (fun i _ => .int .u8 (zs.getD i 0)) hl (fun i j hi hj => ⟨a, rfl, ?_, rfl, fun h => h⟩) (fun h => ⟨a, rfl, ?_⟩) (fun i j hi hj => ?_)
    · rw [show i * 1 + j = i by omega]
      exact hcell i (by omega)
    · simpa [Addr.add] using World.cell?_spot (hcell 0 (by omega))
    · obtain rfl : j = 0 := by omega
      have hw := u8_wf (hwz (zs.getD i 0) (by rw [List.getD_eq_getElem?_getD, List.getElem?_eq_getElem (by omega)]; simp))
      have : (zs.getD i 0) = (((zs.take len).map fun n => UInt8.ofNat n.toNat).getD i 0).toNat := by
        rw [List.getD_eq_getElem?_getD, List.getD_eq_getElem?_getD, List.getElem?_map, List.getElem?_take_of_lt hi]
        rw [List.getD_eq_getElem?_getD] at hw
        rw [List.getElem?_eq_getElem (by omega)] at hw ⊢
        simp at hw ⊢
        omega
      show RelC W _ _ (SV.int .u8 _)
      rw [this]
      exact .int _ _
theorem array6 {α : Type} {cs : Array α} (h : cs.size = 6) : ∃ c0 c1 c2 c3 c4 c5, cs = #[c0, c1, c2, c3, c4, c5] := by
  obtain ⟨l⟩ := cs
  match l, h with
  | [c0, c1, c2, c3, c4, c5], _ => exact ⟨c0, c1, c2, c3, c4, c5, rfl⟩
theorem open_agg6 {W : World} {b0 base : Nat} {spare : Nat → Bool} {held : Bool} {r : Reach} {t : TypeId} {f0 f1 f2 f3 f4 f5 : Field} {v : Value} {d : DataW H} {p : List MemPlace} (hs : P.underlying t = some (.struct #[f0, f1, f2, f3, f4, f5])) (hone : oneCellFields P #[f0, f1, f2, f3, f4, f5] = true) (hC : P.cellsOf t = 6)
    (hv : Value.okWide P W r b0 t v) (h : DataW.Trod enc P W base spare held t v d p) :
    ∃ (v0 v1 v2 v3 v4 v5 : Value) (y0 y1 y2 y3 y4 y5 : DataW H × List MemPlace) (n : Nat), v = .agg #[v0, v1, v2, v3, v4, v5] ∧ d = .agg [y0.1, y1.1, y2.1, y3.1, y4.1, y5.1] ∧ p = y0.2 ++ (y1.2 ++ (y2.2 ++ (y3.2 ++ (y4.2 ++ y5.2)))) ∧
      DataW.trod enc P W base spare held n f0.type [v0] = some y0 ∧ DataW.trod enc P W base spare held n f1.type [v1] = some y1 ∧ DataW.trod enc P W base spare held n f2.type [v2] = some y2 ∧ DataW.trod enc P W base spare held n f3.type [v3] = some y3 ∧ DataW.trod enc P W base spare held n f4.type [v4] = some y4 ∧ DataW.trod enc P W base spare held n f5.type [v5] = some y5 := by
  obtain ⟨cs, rfl, hsz⟩ := okWide_struct hs hv
  obtain ⟨c0, c1, c2, c3, c4, c5, rfl⟩ := array6 (hsz.trans hC)
  obtain ⟨fuel, hf⟩ := h
  obtain ⟨xs, n, _, hx, hl, hlen, hf⟩ := DataW.trod_struct hs hf
  match xs, hlen with
  | [y0, y1, y2, y3, y4, y5], _ =>
    obtain ⟨o0, k0⟩ := hone_of hone 0 f0 rfl
    have h0 := hf 0 f0 rfl
    obtain ⟨o1, k1⟩ := hone_of hone 1 f1 rfl
    have h1 := hf 1 f1 rfl
    obtain ⟨o2, k2⟩ := hone_of hone 2 f2 rfl
    have h2 := hf 2 f2 rfl
    obtain ⟨o3, k3⟩ := hone_of hone 3 f3 rfl
    have h3 := hf 3 f3 rfl
    obtain ⟨o4, k4⟩ := hone_of hone 4 f4 rfl
    have h4 := hf 4 f4 rfl
    obtain ⟨o5, k5⟩ := hone_of hone 5 f5 rfl
    have h5 := hf 5 f5 rfl
    simp only [Prod.mk.injEq] at hx
    exact ⟨c0, c1, c2, c3, c4, c5, y0, y1, y2, y3, y4, y5, n, rfl, by simpa using hx.1, by simpa using hx.2, by simpa [Value.cells, o0, k0] using h0, by simpa [Value.cells, o1, k1] using h1, by simpa [Value.cells, o2, k2] using h2, by simpa [Value.cells, o3, k3] using h3, by simpa [Value.cells, o4, k4] using h4, by simpa [Value.cells, o5, k5] using h5⟩
theorem rel_agg6 {w : World} {ρ : Nat → Value} {rw N : Nat → Prop} {u0 u1 u2 u3 u4 u5 : Value} {s0 s1 s2 s3 s4 s5 : SV} (h0 : one u0) (h1 : one u1) (h2 : one u2) (h3 : one u3) (h4 : one u4) (h5 : one u5)
    (r0 : Rel w ρ rw N u0 s0) (r1 : Rel w ρ rw N u1 s1) (r2 : Rel w ρ rw N u2 s2) (r3 : Rel w ρ rw N u3 s3) (r4 : Rel w ρ rw N u4 s4) (r5 : Rel w ρ rw N u5 s5) : Rel w ρ rw N (.agg #[u0, u1, u2, u3, u4, u5]) (.agg [s0, s1, s2, s3, s4, s5]) := by
  refine .agg _ _ rfl ?_ ?_
  · intro v hv
    simp at hv
    rcases hv with rfl | rfl | rfl | rfl | rfl | rfl <;> assumption
  · intro i v s hv hs
    match i with
    | 0 => simp at hv hs; subst hv hs; exact r0
    | 1 => simp at hv hs; subst hv hs; exact r1
    | 2 => simp at hv hs; subst hv hs; exact r2
    | 3 => simp at hv hs; subst hv hs; exact r3
    | 4 => simp at hv hs; subst hv hs; exact r4
    | 5 => simp at hv hs; subst hv hs; exact r5
    | n + 6 => simp at hv
theorem u32_wf {z : Int} (h : (Lit.int .u32 z).wf = true) : 0 ≤ z ∧ z < 4294967296 := by
  simp [Lit.wf] at h
  have e1 : IntKind.u32.min = 0 := by decide
  have e2 : IntKind.u32.max = 4294967295 := by decide
  rw [e1, e2] at h
  exact ⟨h.1, by omega⟩
end
end Go.Vd

set_option linter.unusedVariables false
namespace Go.Vd
theorem u64_wf {z : Int} (h : (Lit.int .u64 z).wf = true) : 0 ≤ z ∧ z < 18446744073709551616 := by
  simp [Lit.wf] at h
  have e1 : IntKind.u64.min = 0 := by decide
  have e2 : IntKind.u64.max = 18446744073709551615 := by decide
  rw [e1, e2] at h
  omega
theorem i64_wf {z : Int} (h : (Lit.int .i64 z).wf = true) : -9223372036854775808 ≤ z ∧ z < 9223372036854775808 := by
  simp [Lit.wf] at h
  have e1 : IntKind.i64.min = -9223372036854775808 := by decide
  have e2 : IntKind.i64.max = 9223372036854775807 := by decide
  (try rw [e1] at h)
  (try rw [e2] at h)
  omega
theorem i16_wf {z : Int} (h : (Lit.int .i16 z).wf = true) : -32768 ≤ z ∧ z < 32768 := by
  simp [Lit.wf] at h
  have e1 : IntKind.i16.min = -32768 := by decide
  have e2 : IntKind.i16.max = 32767 := by decide
  (try rw [e1] at h)
  (try rw [e2] at h)
  omega
section
open Go.Proofs Go.ChangeShapes Go.WideShapes Go.ChangeAt Go.RowKit Go.Joins
variable {H : Type} {enc : TypeId × Value → H} {P : Program} {w : World} {base : Nat} {spare : Nat → Bool} {held : Bool}
theorem trodAll_five {t0 t1 t2 t3 t4 : TypeId} {args : Array Value} {ds : List (DataW H)} {ps : List MemPlace} (h : DataW.TrodAll enc P w base spare held [t0, t1, t2, t3, t4] args.toList ds ps) :
    ∃ v0 v1 v2 v3 v4 d0 d1 d2 d3 d4 p0 p1 p2 p3 p4, args = #[v0, v1, v2, v3, v4] ∧ ds = [d0, d1, d2, d3, d4] ∧ ps = p0 ++ p1 ++ p2 ++ p3 ++ p4 ∧ DataW.Trod enc P w base spare held t0 v0 d0 p0 ∧ DataW.Trod enc P w base spare held t1 v1 d1 p1 ∧ DataW.Trod enc P w base spare held t2 v2 d2 p2 ∧ DataW.Trod enc P w base spare held t3 v3 d3 p3 ∧ DataW.Trod enc P w base spare held t4 v4 d4 p4 := by
  obtain ⟨v0, vs0, d0, ds0, p0, q0, hargs, rfl, rfl, hd0, r0⟩ := trodAll_cons h
  obtain ⟨v1, vs1, d1, ds1, p1, q1, rfl, rfl, rfl, hd1, r1⟩ := trodAll_cons r0
  obtain ⟨v2, vs2, d2, ds2, p2, q2, rfl, rfl, rfl, hd2, r2⟩ := trodAll_cons r1
  obtain ⟨v3, vs3, d3, ds3, p3, q3, rfl, rfl, rfl, hd3, r3⟩ := trodAll_cons r2
  obtain ⟨v4, vs4, d4, ds4, p4, q4, rfl, rfl, rfl, hd4, r4⟩ := trodAll_cons r3
  obtain ⟨rfl, rfl, rfl⟩ := trodAll_nil r4
  exact ⟨v0, v1, v2, v3, v4, d0, d1, d2, d3, d4, p0, p1, p2, p3, p4, by cases args; simp_all, rfl, by simp, hd0, hd1, hd2, hd3, hd4⟩
end
end Go.Vd

set_option linter.unusedVariables false
set_option maxRecDepth 100000
namespace Go.Vd
open Go.Proofs Go.ChangeShapes Go.WideShapes Go.ChangeAt Go.RowKit Go.Joins Go.Deep Go.WideElems
section
variable {H : Type} {enc : TypeId × Value → H} {P : Program} {w : World} {base : Nat} {sp : Nat → Bool} {held : Bool}
/-- A struct of three numbers, as it is read. -/
theorem trod3 {fuel : Nat} {e : TypeId} {f0 f1 f2 : Field} {cs : List Value} {a b c : Int} {p : List MemPlace} (hs : P.underlying e = some (.struct #[f0, f1, f2])) (hone : oneCellFields P #[f0, f1, f2] = true)
    (h0 : P.underlying f0.type = some (.int .i64)) (h1 : P.underlying f1.type = some (.int .i64)) (h2 : P.underlying f2.type = some (.int .i64)) (hC : P.cellsOf e = 3)
    (h : DataW.trod enc P w base sp held fuel e cs = some (.agg [.lit (.int .i64 a), .lit (.int .i64 b), .lit (.int .i64 c)], p)) : cs = [.int .i64 a, .int .i64 b, .int .i64 c] := by
  obtain ⟨xs, n, _, hx, hl, hlen, hf⟩ := DataW.trod_struct hs h
  rw [hC] at hl
  match xs, hlen with
  | [y0, y1, y2], _ =>
    match cs, hl with
    | [c0, c1, c2], _ =>
      obtain ⟨o0, k0⟩ := hone_of hone 0 f0 rfl
      have g0 := hf 0 f0 rfl
      obtain ⟨o1, k1⟩ := hone_of hone 1 f1 rfl
      have g1 := hf 1 f1 rfl
      obtain ⟨o2, k2⟩ := hone_of hone 2 f2 rfl
      have g2 := hf 2 f2 rfl
      rw [o0, k0] at g0
      rw [o1, k1] at g1
      rw [o2, k2] at g2
      obtain ⟨z0, e0, i0, _⟩ := DataW.trod_int h0 g0
      obtain ⟨z1, e1, i1, _⟩ := DataW.trod_int h1 g1
      obtain ⟨z2, e2, i2, _⟩ := DataW.trod_int h2 g2
      simp only [Prod.mk.injEq] at hx
      have hx1 := hx.1
      simp at e0 e1 e2
      subst i0 i1 i2
      simp at hx1
      obtain ⟨r0, r1, r2⟩ := hx1
      subst r0 r1 r2 e0 e1 e2
      rfl
/-- A row of such. -/
theorem cells_of_known {fuel n : Nat} {t e : TypeId} {f0 f1 f2 : Field} {cs : List Value} {L : List (Int × Int × Int)} {p : List MemPlace} (ht : P.underlying t = some (.array n e)) (hs : P.underlying e = some (.struct #[f0, f1, f2])) (hone : oneCellFields P #[f0, f1, f2] = true)
    (h0 : P.underlying f0.type = some (.int .i64)) (h1 : P.underlying f1.type = some (.int .i64)) (h2 : P.underlying f2.type = some (.int .i64)) (hC : P.cellsOf e = 3)
    (h : DataW.trod enc P w base sp held fuel t cs = some (.agg (L.map fun x => .agg [.lit (.int .i64 x.1), .lit (.int .i64 x.2.1), .lit (.int .i64 x.2.2)]), p)) :
    cs.length = P.cellsOf t ∧ L.length = n ∧ ∀ i x, L[i]? = some x → (cs.drop (i * 3)).take 3 = [.int .i64 x.1, .int .i64 x.2.1, .int .i64 x.2.2] := by
  obtain ⟨xs, m, _, hx, hl, hlen, hf⟩ := DataW.trod_array ht h
  simp only [Prod.mk.injEq] at hx
  have hx1 : L.map (fun x => (DataW.agg [.lit (.int .i64 x.1), .lit (.int .i64 x.2.1), .lit (.int .i64 x.2.2)] : DataW H)) = xs.map (·.1) := by simpa using hx.1
  have hLl : L.length = n := by
    have := congrArg List.length hx1
    simp at this
    omega
  refine ⟨hl, hLl, fun i x hi => ?_⟩
  have hin : i < n := by
    rw [← hLl]
    exact (List.getElem?_eq_some_iff.1 hi).1
  have g := hf i hin
  rw [hC] at g
  have hxi : xs[i]? = some xs[i] := List.getElem?_eq_getElem (by omega)
  rw [hxi] at g
  have h3 : (DataW.agg [.lit (.int .i64 x.1), .lit (.int .i64 x.2.1), .lit (.int .i64 x.2.2)] : DataW H) = xs[i].1 := by
    have := congrArg (·[i]?) hx1
    simp [hi, hxi] at this
    exact this
  have g' : DataW.trod enc P w base sp held m e ((cs.drop (i * 3)).take 3) = some (.agg [.lit (.int .i64 x.1), .lit (.int .i64 x.2.1), .lit (.int .i64 x.2.2)], xs[i].2) := by
    rw [g, h3]
  exact trod3 hs hone h0 h1 h2 hC g'
end
def knownT : List (Int × Int × Int) := [(2, 3, 19), (3, 1, 6), (4, 1, 12), (7, 1, 10), (11, 1, 6), (12, 1, 6), (37, 2, 12), (38, 2, 6), (39, 2, 2), (41, 2, 8), (44, 4, 25), (48, 5, 999), (49, 1, 3), (90, 1, 42), (120, 5, 999)]
theorem gKnown : Tryd.prog.globalNamed "paydesk/field.known" = some 1 := by kernel_rfl
/-- What is known of the fields' own variable. -/
def KnownIs (w : World) : Prop := ∃ cs, w.var? Tryd.prog "paydesk/field.known" = some cs ∧ cs.size = 45 ∧ ∀ j, j < 45 → cs[j]? = some (.int .i64 (knownL.getD j 0))
theorem known_at : ∀ j, j < 45 → ∃ x, knownT[j / 3]? = some x ∧ ([x.1, x.2.1, x.2.2] : List Int)[j % 3]? = some (knownL.getD j 0) := by
  intro j hj
  have h : ∀ j : Fin 45, ∃ x : Fin 15, knownT[j.val / 3]? = knownT[x.val]? ∧ ((knownT[x.val]?).bind fun x => ([x.1, x.2.1, x.2.2] : List Int)[j.val % 3]?) = some (knownL.getD j.val 0) := by decide +kernel
  obtain ⟨x, h1, h2⟩ := h ⟨j, hj⟩
  simp only at h1 h2
  rw [← h1] at h2
  obtain ⟨y, h3, h4⟩ := Option.bind_eq_some_iff.1 h2
  exact ⟨y, h3, h4⟩
theorem gTypes : Tryd.prog.globalNamed "paydesk/deal.types" = some 0 := by kernel_rfl
def TypesIs (w : World) : Prop := ∃ cs, w.var? Tryd.prog "paydesk/deal.types" = some cs ∧ cs.size = 7 ∧ ∀ j, j < 7 → cs[j]? = some (.string ⟨(typesL.getD j []).toArray⟩)
section
variable {H : Type} {enc : TypeId × Value → H} {P : Program} {w : World} {base : Nat} {sp : Nat → Bool} {held : Bool}
theorem cells_of_types {fuel n : Nat} {t e : TypeId} {cs : List Value} {L : List (List UInt8)} {p : List MemPlace} (ht : P.underlying t = some (.array n e)) (he : P.underlying e = some .string) (hC : P.cellsOf e = 1)
    (h : DataW.trod enc P w base sp held fuel t cs = some (.agg (L.map fun x => .lit (.string x)), p)) :
    cs.length = P.cellsOf t ∧ L.length = n ∧ ∀ (i : Nat) (x : List UInt8), L[i]? = some x → cs[i]? = some (.string ⟨x.toArray⟩) := by
  obtain ⟨xs, m, _, hx, hl, hlen, hf⟩ := DataW.trod_array ht h
  simp only [Prod.mk.injEq] at hx
  have hx1 : L.map (fun x => (DataW.lit (.string x) : DataW H)) = xs.map (·.1) := by simpa using hx.1
  have hLl : L.length = n := by
    have := congrArg List.length hx1
    simp at this
    omega
  refine ⟨hl, hLl, fun i x hi => ?_⟩
  have hin : i < n := by
    rw [← hLl]
    exact (List.getElem?_eq_some_iff.1 hi).1
  have g := hf i hin
  rw [hC] at g
  have hxi : xs[i]? = some xs[i] := List.getElem?_eq_getElem (by omega)
  rw [hxi] at g
  have h3 : (DataW.lit (.string x) : DataW H) = xs[i].1 := by
    have := congrArg (·[i]?) hx1
    simp [hi, hxi] at this
    exact this
  obtain ⟨s, e1, e2, _⟩ := DataW.trod_string he g
  have e3 : (DataW.lit (.string x) : DataW H) = .lit (.string s.data.toList) := h3.trans (congrArg Prod.fst e2)
  injection e3 with e3
  injection e3 with e3
  have e4 := congrArg (·[0]?) e1
  simp [List.getElem?_drop] at e4
  rw [e4, e3]
end
/-- What the tables give of the package's variables. -/
theorem gl0_kt {w : World} (hh : KnownIs w ∧ TypesIs w) : GlOk gl0 w fun _ => False := by
  obtain ⟨⟨cs0, hv0, hz0, hc0⟩, cs1, hv1, hz1, hc1⟩ := hh
  have hne : ∀ g, g ≠ 1 → g ≠ 0 → gl0 g = .val (.pointer (some ⟨g, 0, none⟩)) := fun g hg hg0 => by
    unfold gl0
    split
    · first | exact absurd rfl hg0 | exact absurd rfl hg
    · first | exact absurd rfl hg | exact absurd rfl hg0
    · rfl
  refine ⟨fun g ρ N => ?_, fun g k f e => ?_⟩
  · by_cases hg : g = 0
    · subst hg
      show Rel w ρ (fun _ => False) N _ (.rop 7 fun j => .str (typesL.getD j []))
      refine .rop ⟨0, 0, none⟩ 7 _ (fun j => .string ⟨(typesL.getD j []).toArray⟩) rfl (fun j hj => ⟨?_, rfl, fun e => e⟩) (fun j _ => by have := RelC.str (w := w) (rw := fun _ => False) ⟨(typesL.getD j []).toArray⟩; simpa using this)
      rw [add_plain, Nat.zero_add, World.var?_cell gTypes hv1]
      exact hc1 j hj
    · by_cases hg0 : g = 1
      · subst hg0
        show Rel w ρ (fun _ => False) N _ (.rop 45 fun j => .int .i64 (knownL.getD j 0))
        refine .rop ⟨1, 0, none⟩ 45 _ (fun j => .int .i64 (knownL.getD j 0)) rfl (fun j hj => ⟨?_, rfl, fun e => e⟩) (fun j _ => .int _ _)
        rw [add_plain, Nat.zero_add, World.var?_cell gKnown hv0]
        exact hc0 j hj
      · rw [hne g hg0 hg]; exact .val _
  · by_cases hg : g = 0
    · subst hg
      have e2 : (SV.rop 7 fun j => .str (typesL.getD j [])) = .rop k f := e
      cases e2
      refine ⟨?_, fun e => e⟩
      unfold World.var? at hv1
      rw [gTypes] at hv1
      simp only [Option.bind_some] at hv1
      split at hv1
      · rename_i cs t b hc
        injection hv1 with hv1
        exact ⟨cs, t, b, hc, by rw [hv1]; exact hz1⟩
      · cases hv1
    · by_cases hg0 : g = 1
      · subst hg0
        have e2 : (SV.rop 45 fun j => .int .i64 (knownL.getD j 0)) = .rop k f := e
        cases e2
        refine ⟨?_, fun e => e⟩
        unfold World.var? at hv0
        rw [gKnown] at hv0
        simp only [Option.bind_some] at hv0
        split at hv0
        · rename_i cs t b hc
          injection hv0 with hv0
          exact ⟨cs, t, b, hc, by rw [hv0]; exact hz0⟩
        · cases hv0
      · rw [hne g hg0 hg] at e; cases e
end Go.Vd
namespace Go.Proofs.YtakcggldilbilaaDoor
open Go.ChangeShapes Go.WideShapes Go.ChangeAt Go.ChangeMaps Go.RowKit Go.Joins
def laidL : List (String × DataW Unit) := [("paydesk/field.known", Rows.laid_paydesk_field_known), ("paydesk/deal.types", Rows.laid_paydesk_deal_types)]
theorem Tryd.own : ownKnob Tryd.prog.godebug = none := by kernel_rfl
theorem Tryd.laidOut : laidOutB Tryd.prog = true := by kernel_rfl
theorem tKn : (Tryd.prog.globals[1]?).map (·.type) = some 219 := by kernel_rfl
theorem cKn : Tryd.prog.cellsOf 219 = 45 := by kernel_rfl
theorem cKnE : Tryd.prog.cellsOf 171 = 3 := by kernel_rfl
theorem dKn : (Rows.laid_paydesk_field_known : DataW Unit) = .agg (Vd.knownT.map fun x => .agg [.lit (.int .i64 x.1), .lit (.int .i64 x.2.1), .lit (.int .i64 x.2.2)]) := by kernel_rfl
theorem tTy : (Tryd.prog.globals[0]?).map (·.type) = some 139 := by kernel_rfl
theorem cTy : Tryd.prog.cellsOf 139 = 7 := by kernel_rfl
theorem cTyE : Tryd.prog.cellsOf 9 = 1 := by kernel_rfl
theorem dTy : (Rows.laid_paydesk_deal_types : DataW Unit) = .agg (Vd.typesL.map fun x => .lit (.string x)) := by kernel_rfl
theorem door_met (os : Os) (args : Array Value) : laidMetH Tryd.prog laidL ((World.doorLaid Tryd.prog 2000 os).forCall (fun _ _ => 0) ⟨#[], args, []⟩).memory :=
  laidMetH_of_parts3 (fuel := 8) (laidMet_of_run' 8 (by kernel_rfl) (by kernel_rfl)) (by kernel_rfl) (by kernel_rfl)
theorem laid_known {W : World} (h : laidMetH Tryd.prog laidL W) : Vd.KnownIs W ∧ Vd.TypesIs W := by
  rw [MakeChecks.laidMetH_plain _ _ _ (by kernel_rfl)] at h
  obtain ⟨ps, ⟨g3, t3, cs3, f3, p3, q3, hg3, ht3, hv3, hd3, ⟨g4, t4, cs4, f4, p4, q4, hg4, ht4, hv4, hd4, _, _⟩, _⟩, _, _⟩ := h
  refine ⟨?_, ?_⟩
  · obtain rfl := Option.some.inj (Vd.gKnown.symm.trans hg3)
    obtain rfl := Option.some.inj (tKn.symm.trans ht3)
    rw [dKn] at hd3
    obtain ⟨hl, hn, hx⟩ := Vd.cells_of_known Tryd.underlying219 Tryd.underlying171 (by kernel_rfl) Tryd.underlying3 Tryd.underlying3 Tryd.underlying3 cKnE hd3
    rw [cKn] at hl
    refine ⟨cs3, hv3, by simpa using hl, fun j hj => ?_⟩
    obtain ⟨x, h1, h2⟩ := Vd.known_at j hj
    have h3 := hx _ x h1
    have h4 := congrArg (·[j % 3]?) h3
    rw [List.getElem?_take_of_lt (by omega), List.getElem?_drop, show j / 3 * 3 + j % 3 = j by omega] at h4
    rw [← Array.getElem?_toList, h4]
    have h5 := congrArg (Option.map (Value.int .i64)) h2
    rw [← List.getElem?_map] at h5
    exact h5
  · obtain rfl := Option.some.inj (Vd.gTypes.symm.trans hg4)
    obtain rfl := Option.some.inj (tTy.symm.trans ht4)
    rw [dTy] at hd4
    obtain ⟨hl, hn, hx⟩ := Vd.cells_of_types Tryd.underlying139 Tryd.underlying9 cTyE hd4
    rw [cTy] at hl
    refine ⟨cs4, hv4, by simpa using hl, fun j hj => ?_⟩
    rw [← Array.getElem?_toList]
    refine hx j _ ?_
    rw [List.getD_eq_getElem?_getD, List.getElem?_eq_getElem (by exact hj)]
    rfl
end Go.Proofs.YtakcggldilbilaaDoor

set_option linter.unusedVariables false
namespace Go.Vd
open Go.Proofs Go.ChangeShapes Go.WideShapes Go.ChangeAt Go.RowKit Go.Joins Go.Deep Go.WideElems
section
variable {H : Type} {enc : TypeId × Value → H} {P : Program}
theorem array7 {α : Type} {cs : Array α} (h : cs.size = 7) : ∃ c0 c1 c2 c3 c4 c5 c6, cs = #[c0, c1, c2, c3, c4, c5, c6] := by
  obtain ⟨l⟩ := cs
  match l, h with
  | [c0, c1, c2, c3, c4, c5, c6], _ => exact ⟨c0, c1, c2, c3, c4, c5, c6, rfl⟩
theorem array8 {α : Type} {cs : Array α} (h : cs.size = 8) : ∃ c0 c1 c2 c3 c4 c5 c6 c7, cs = #[c0, c1, c2, c3, c4, c5, c6, c7] := by
  obtain ⟨l⟩ := cs
  match l, h with
  | [c0, c1, c2, c3, c4, c5, c6, c7], _ => exact ⟨c0, c1, c2, c3, c4, c5, c6, c7, rfl⟩
theorem rel_agg7 {w : World} {ρ : Nat → Value} {rw N : Nat → Prop} {u0 u1 u2 u3 u4 u5 u6 : Value} {s0 s1 s2 s3 s4 s5 s6 : SV} (h0 : one u0) (h1 : one u1) (h2 : one u2) (h3 : one u3) (h4 : one u4) (h5 : one u5) (h6 : one u6) (r0 : Rel w ρ rw N u0 s0) (r1 : Rel w ρ rw N u1 s1) (r2 : Rel w ρ rw N u2 s2) (r3 : Rel w ρ rw N u3 s3) (r4 : Rel w ρ rw N u4 s4) (r5 : Rel w ρ rw N u5 s5) (r6 : Rel w ρ rw N u6 s6) : Rel w ρ rw N (.agg #[u0, u1, u2, u3, u4, u5, u6]) (.agg [s0, s1, s2, s3, s4, s5, s6]) := by
  refine .agg _ _ rfl ?_ ?_
  · intro v hv
    simp at hv
    rcases hv with rfl | rfl | rfl | rfl | rfl | rfl | rfl <;> assumption
  · intro i v s hv hs
    match i with
    | 0 => simp at hv hs; subst hv hs; exact r0
    | 1 => simp at hv hs; subst hv hs; exact r1
    | 2 => simp at hv hs; subst hv hs; exact r2
    | 3 => simp at hv hs; subst hv hs; exact r3
    | 4 => simp at hv hs; subst hv hs; exact r4
    | 5 => simp at hv hs; subst hv hs; exact r5
    | 6 => simp at hv hs; subst hv hs; exact r6
    | n + 7 => simp at hv
theorem rel_agg8 {w : World} {ρ : Nat → Value} {rw N : Nat → Prop} {u0 u1 u2 u3 u4 u5 u6 u7 : Value} {s0 s1 s2 s3 s4 s5 s6 s7 : SV} (h0 : one u0) (h1 : one u1) (h2 : one u2) (h3 : one u3) (h4 : one u4) (h5 : one u5) (h6 : one u6) (h7 : one u7) (r0 : Rel w ρ rw N u0 s0) (r1 : Rel w ρ rw N u1 s1) (r2 : Rel w ρ rw N u2 s2) (r3 : Rel w ρ rw N u3 s3) (r4 : Rel w ρ rw N u4 s4) (r5 : Rel w ρ rw N u5 s5) (r6 : Rel w ρ rw N u6 s6) (r7 : Rel w ρ rw N u7 s7) : Rel w ρ rw N (.agg #[u0, u1, u2, u3, u4, u5, u6, u7]) (.agg [s0, s1, s2, s3, s4, s5, s6, s7]) := by
  refine .agg _ _ rfl ?_ ?_
  · intro v hv
    simp at hv
    rcases hv with rfl | rfl | rfl | rfl | rfl | rfl | rfl | rfl <;> assumption
  · intro i v s hv hs
    match i with
    | 0 => simp at hv hs; subst hv hs; exact r0
    | 1 => simp at hv hs; subst hv hs; exact r1
    | 2 => simp at hv hs; subst hv hs; exact r2
    | 3 => simp at hv hs; subst hv hs; exact r3
    | 4 => simp at hv hs; subst hv hs; exact r4
    | 5 => simp at hv hs; subst hv hs; exact r5
    | 6 => simp at hv hs; subst hv hs; exact r6
    | 7 => simp at hv hs; subst hv hs; exact r7
    | n + 8 => simp at hv
theorem open_entry {W : World} {b0 base : Nat} {spare : Nat → Bool} {held : Bool} {r : Reach} {t : TypeId} {f0 f1 f2 f3 f4 f5 f6 : Field} {g00 g01 : Field} {v : Value} {d : DataW H} {p : List MemPlace} (hs : P.underlying t = some (.struct #[f0, f1, f2, f3, f4, f5, f6])) (hC : P.cellsOf t = 8)
    (o0 : f0.offset = 0) (k0 : P.cellsOf f0.type = 2) (o1 : f1.offset = 2) (k1 : P.cellsOf f1.type = 1) (o2 : f2.offset = 3) (k2 : P.cellsOf f2.type = 1) (o3 : f3.offset = 4) (k3 : P.cellsOf f3.type = 1) (o4 : f4.offset = 5) (k4 : P.cellsOf f4.type = 1) (o5 : f5.offset = 6) (k5 : P.cellsOf f5.type = 1) (o6 : f6.offset = 7) (k6 : P.cellsOf f6.type = 1) (hs0 : P.underlying f0.type = some (.struct #[g00, g01])) (hone0 : oneCellFields P #[g00, g01] = true) 
    (hv : Value.okWide P W r b0 t v) (h : DataW.Trod enc P W base spare held t v d p) :
    ∃ (c0 c1 c2 c3 c4 c5 c6 c7 : Value) (y00 y01 y1 y2 y3 y4 y5 y6 : DataW H × List MemPlace) (n m0 : Nat), v = .agg #[c0, c1, c2, c3, c4, c5, c6, c7] ∧ d = .agg [.agg [y00.1, y01.1], y1.1, y2.1, y3.1, y4.1, y5.1, y6.1] ∧ p = (y00.2 ++ (y01.2)) ++ (y1.2 ++ (y2.2 ++ (y3.2 ++ (y4.2 ++ (y5.2 ++ (y6.2)))))) ∧
      DataW.trod enc P W base spare held m0 g00.type [c0] = some y00 ∧ DataW.trod enc P W base spare held m0 g01.type [c1] = some y01 ∧ DataW.trod enc P W base spare held n f1.type [c2] = some y1 ∧ DataW.trod enc P W base spare held n f2.type [c3] = some y2 ∧ DataW.trod enc P W base spare held n f3.type [c4] = some y3 ∧ DataW.trod enc P W base spare held n f4.type [c5] = some y4 ∧ DataW.trod enc P W base spare held n f5.type [c6] = some y5 ∧ DataW.trod enc P W base spare held n f6.type [c7] = some y6 := by
  obtain ⟨cs, rfl, hsz⟩ := okWide_struct hs hv
  obtain ⟨c0, c1, c2, c3, c4, c5, c6, c7, rfl⟩ := array8 (hsz.trans hC)
  obtain ⟨fuel, hf⟩ := h
  obtain ⟨xs, n, _, hx, hl, hlen, hf⟩ := DataW.trod_struct hs hf
  match xs, hlen with
  | [w0, w1, w2, w3, w4, w5, w6], _ =>
    simp only [Prod.mk.injEq] at hx
    have q0 := hf 0 f0 rfl
    rw [o0, k0] at q0
    have q1 := hf 1 f1 rfl
    rw [o1, k1] at q1
    have q2 := hf 2 f2 rfl
    rw [o2, k2] at q2
    have q3 := hf 3 f3 rfl
    rw [o3, k3] at q3
    have q4 := hf 4 f4 rfl
    rw [o4, k4] at q4
    have q5 := hf 5 f5 rfl
    rw [o5, k5] at q5
    have q6 := hf 6 f6 rfl
    rw [o6, k6] at q6
    have q0 : DataW.trod enc P W base spare held n f0.type [c0, c1] = some w0 := by simpa [Value.cells] using q0
    obtain ⟨xs0, m0, _, hx0, _, hlen0, hf0⟩ := DataW.trod_struct hs0 q0
    match xs0, hlen0 with
    | [y00, y01], _ =>
    obtain ⟨oo00, kk00⟩ := hone_of hone0 0 g00 rfl
    have qq00 := hf0 0 g00 rfl
    rw [oo00, kk00] at qq00
    obtain ⟨oo01, kk01⟩ := hone_of hone0 1 g01 rfl
    have qq01 := hf0 1 g01 rfl
    rw [oo01, kk01] at qq01
    subst hx0
    refine ⟨c0, c1, c2, c3, c4, c5, c6, c7, y00, y01, w1, w2, w3, w4, w5, w6, n, m0, rfl, by simpa using hx.1, by simpa using hx.2, by simpa [Value.cells] using qq00, by simpa [Value.cells] using qq01, by simpa [Value.cells] using q1, by simpa [Value.cells] using q2, by simpa [Value.cells] using q3, by simpa [Value.cells] using q4, by simpa [Value.cells] using q5, by simpa [Value.cells] using q6⟩
theorem open_event {W : World} {b0 base : Nat} {spare : Nat → Bool} {held : Bool} {r : Reach} {t : TypeId} {f0 f1 : Field} {g10 g11 g12 g13 g14 g15 : Field} {v : Value} {d : DataW H} {p : List MemPlace} (hs : P.underlying t = some (.struct #[f0, f1])) (hC : P.cellsOf t = 7)
    (o0 : f0.offset = 0) (k0 : P.cellsOf f0.type = 1) (o1 : f1.offset = 1) (k1 : P.cellsOf f1.type = 6) (hs1 : P.underlying f1.type = some (.struct #[g10, g11, g12, g13, g14, g15])) (hone1 : oneCellFields P #[g10, g11, g12, g13, g14, g15] = true) 
    (hv : Value.okWide P W r b0 t v) (h : DataW.Trod enc P W base spare held t v d p) :
    ∃ (c0 c1 c2 c3 c4 c5 c6 : Value) (y0 y10 y11 y12 y13 y14 y15 : DataW H × List MemPlace) (n m1 : Nat), v = .agg #[c0, c1, c2, c3, c4, c5, c6] ∧ d = .agg [y0.1, .agg [y10.1, y11.1, y12.1, y13.1, y14.1, y15.1]] ∧ p = y0.2 ++ ((y10.2 ++ (y11.2 ++ (y12.2 ++ (y13.2 ++ (y14.2 ++ (y15.2))))))) ∧
      DataW.trod enc P W base spare held n f0.type [c0] = some y0 ∧ DataW.trod enc P W base spare held m1 g10.type [c1] = some y10 ∧ DataW.trod enc P W base spare held m1 g11.type [c2] = some y11 ∧ DataW.trod enc P W base spare held m1 g12.type [c3] = some y12 ∧ DataW.trod enc P W base spare held m1 g13.type [c4] = some y13 ∧ DataW.trod enc P W base spare held m1 g14.type [c5] = some y14 ∧ DataW.trod enc P W base spare held m1 g15.type [c6] = some y15 := by
  obtain ⟨cs, rfl, hsz⟩ := okWide_struct hs hv
  obtain ⟨c0, c1, c2, c3, c4, c5, c6, rfl⟩ := array7 (hsz.trans hC)
  obtain ⟨fuel, hf⟩ := h
  obtain ⟨xs, n, _, hx, hl, hlen, hf⟩ := DataW.trod_struct hs hf
  match xs, hlen with
  | [w0, w1], _ =>
    simp only [Prod.mk.injEq] at hx
    have q0 := hf 0 f0 rfl
    rw [o0, k0] at q0
    have q1 := hf 1 f1 rfl
    rw [o1, k1] at q1
    have q1 : DataW.trod enc P W base spare held n f1.type [c1, c2, c3, c4, c5, c6] = some w1 := by simpa [Value.cells] using q1
    obtain ⟨xs1, m1, _, hx1, _, hlen1, hf1⟩ := DataW.trod_struct hs1 q1
    match xs1, hlen1 with
    | [y10, y11, y12, y13, y14, y15], _ =>
    obtain ⟨oo10, kk10⟩ := hone_of hone1 0 g10 rfl
    have qq10 := hf1 0 g10 rfl
    rw [oo10, kk10] at qq10
    obtain ⟨oo11, kk11⟩ := hone_of hone1 1 g11 rfl
    have qq11 := hf1 1 g11 rfl
    rw [oo11, kk11] at qq11
    obtain ⟨oo12, kk12⟩ := hone_of hone1 2 g12 rfl
    have qq12 := hf1 2 g12 rfl
    rw [oo12, kk12] at qq12
    obtain ⟨oo13, kk13⟩ := hone_of hone1 3 g13 rfl
    have qq13 := hf1 3 g13 rfl
    rw [oo13, kk13] at qq13
    obtain ⟨oo14, kk14⟩ := hone_of hone1 4 g14 rfl
    have qq14 := hf1 4 g14 rfl
    rw [oo14, kk14] at qq14
    obtain ⟨oo15, kk15⟩ := hone_of hone1 5 g15 rfl
    have qq15 := hf1 5 g15 rfl
    rw [oo15, kk15] at qq15
    subst hx1
    refine ⟨c0, c1, c2, c3, c4, c5, c6, w0, y10, y11, y12, y13, y14, y15, n, m1, rfl, by simpa using hx.1, by simpa using hx.2, by simpa [Value.cells] using q0, by simpa [Value.cells] using qq10, by simpa [Value.cells] using qq11, by simpa [Value.cells] using qq12, by simpa [Value.cells] using qq13, by simpa [Value.cells] using qq14, by simpa [Value.cells] using qq15⟩
end
end Go.Vd

set_option linter.unusedVariables false
namespace Go.Vd
open Go.Proofs Go.ChangeShapes Go.WideShapes Go.ChangeAt Go.RowKit Go.Joins Go.Deep Go.WideElems
def hB (e : Hld) : Prop := 0 ≤ e.am
theorem hB_0 : hB H0 := (by decide : (0 : Int) ≤ 0)
section
variable {H : Type} {enc : TypeId × Value → H} {P : Program}
theorem hds_list {α : Type} {cs : List α} (h : cs.length = 4) : ∃ c0 c1 c2 c3, cs = [c0, c1, c2, c3] := by
  match cs, h with
  | [c0, c1, c2, c3], _ => exact ⟨c0, c1, c2, c3, rfl⟩
theorem hds_one {W : World} {ad : Addr} {n : Nat} {el : DataW H × List MemPlace} {e : TypeId} {f0 f1 f2 g00 g01 : Field} (hs : P.underlying e = some (.struct #[f0, f1, f2])) (hC : P.cellsOf e = 4)
    (o0 : f0.offset = 0) (k0 : P.cellsOf f0.type = 2) (hs0 : P.underlying f0.type = some (.struct #[g00, g01])) (hone0 : oneCellFields P #[g00, g01] = true) (o1 : f1.offset = 2) (k1 : P.cellsOf f1.type = 1) (o2 : f2.offset = 3) (k2 : P.cellsOf f2.type = 1) 
    (u0 : P.underlying g00.type = some (.int .u32)) (u1 : P.underlying g01.type = some (.string)) (u2 : P.underlying f1.type = some (.int .u64)) (u3 : P.underlying f2.type = some (.int .i64)) 
    (h : (W.cells? 0 ad 4).bind (DataW.trod enc P W 0 (fun _ => true) true n e) = some el) :
    ∃ x : Hld, hB x ∧ ∀ j, j < 4 → ∃ v, W.cell? (ad.add j) = some v ∧ Vd.one v ∧ RelC W (fun _ => False) v (getAt (eH std fun _ => x) j) := by
  obtain ⟨cs, hcs, hf⟩ := Option.bind_eq_some_iff.1 h
  obtain ⟨_, hlen, hcell⟩ := World.cells?_some hcs
  obtain ⟨c0, c1, c2, c3, rfl⟩ := hds_list hlen
  obtain ⟨xs, n', _, hx, hl, hlen2, hf⟩ := DataW.trod_struct hs hf
  match xs, hlen2 with
  | [w0, w1, w2], _ =>
    have q0 := hf 0 f0 rfl
    rw [o0, k0] at q0
    have q0 : DataW.trod enc P W 0 (fun _ => true) true n' f0.type [c0, c1] = some w0 := by simpa using q0
    obtain ⟨xs0, m0, _, hx0, _, hlen0, hf0⟩ := DataW.trod_struct hs0 q0
    match xs0, hlen0 with
    | [y00, y01], _ =>
    obtain ⟨oo00, kk00⟩ := hone_of hone0 0 g00 rfl
    have qq00 := hf0 0 g00 rfl
    rw [oo00, kk00] at qq00
    obtain ⟨oo01, kk01⟩ := hone_of hone0 1 g01 rfl
    have qq01 := hf0 1 g01 rfl
    rw [oo01, kk01] at qq01
    have q1 := hf 1 f1 rfl
    rw [o1, k1] at q1
    have q1 : DataW.trod enc P W 0 (fun _ => true) true n' f1.type [c2] = some w1 := by simpa using q1
    have q2 := hf 2 f2 rfl
    rw [o2, k2] at q2
    have q2 : DataW.trod enc P W 0 (fun _ => true) true n' f2.type [c3] = some w2 := by simpa using q2
    obtain ⟨z0, e0, _, wf0⟩ := DataW.trod_int (cs := [c0]) u0 (by simpa using qq00)
    obtain ⟨s1, e1, _, _⟩ := DataW.trod_string (cs := [c1]) u1 (by simpa using qq01)
    obtain ⟨z2, e2, _, wf2⟩ := DataW.trod_int (cs := [c2]) u2 q1
    obtain ⟨z3, e3, _, wf3⟩ := DataW.trod_int (cs := [c3]) u3 q2
    simp only [List.cons.injEq, and_true] at e0 e1 e2 e3
    subst e0 e1 e2 e3
    refine ⟨⟨z0, s1.data.toList, z2, z3⟩, (u64_wf wf2).1, fun j hj => ?_⟩
    have hcj := hcell j (by omega)
    match j, hj with
    | 0, _ => exact ⟨.int .u32 z0, by simpa using hcj, rfl, .int _ _⟩
    | 1, _ => exact ⟨.string s1, by simpa using hcj, rfl, .str _⟩
    | 2, _ => exact ⟨.int .u64 z2, by simpa using hcj, rfl, .int _ _⟩
    | 3, _ => exact ⟨.int .i64 z3, by simpa using hcj, rfl, .int _ _⟩
theorem open_hds_trod {W : World} {t e : TypeId} {v : Value} {fuel : Nat} {x : DataW H × List MemPlace} (ht : P.underlying t = some (.slice e)) {f0 f1 f2 g00 g01 : Field} (hs : P.underlying e = some (.struct #[f0, f1, f2])) (hC : P.cellsOf e = 4)
    (o0 : f0.offset = 0) (k0 : P.cellsOf f0.type = 2) (hs0 : P.underlying f0.type = some (.struct #[g00, g01])) (hone0 : oneCellFields P #[g00, g01] = true) (o1 : f1.offset = 2) (k1 : P.cellsOf f1.type = 1) (o2 : f2.offset = 3) (k2 : P.cellsOf f2.type = 1) 
    (u0 : P.underlying g00.type = some (.int .u32)) (u1 : P.underlying g01.type = some (.string)) (u2 : P.underlying f1.type = some (.int .u64)) (u3 : P.underlying f2.type = some (.int .i64)) 
    (h : DataW.trod enc P W 0 (fun _ => true) true fuel t [v] = some x) :
    ∃ L : List (Hld), L.length ≤ maxLen ∧ (∀ i, hB (L.getD i H0)) ∧ Vd.one v ∧ RelC W (fun _ => False) v (rowS eH H0 4 std fun _ => L) := by
  rcases DataW.trod_slice ht h with ⟨hcs, _⟩ | ⟨a, len, cap, elems, rest, n, _, hcs, _, _, hl, hm, hel, hx, _, _⟩
  · simp only [List.cons.injEq, and_true] at hcs
    subst hcs
    exact ⟨[], Nat.zero_le _, fun i => hB_0, rfl, .slc none 0 0 4 _ (fun _ _ => undef) (Nat.le_refl _) (fun i j hi => absurd hi (by omega)) (fun h => absurd h (by omega)) (fun i j hi => absurd hi (by omega))⟩
  · simp only [List.cons.injEq, and_true] at hcs
    subst hcs
    rw [hC] at hx
    have each : ∀ i, i < len → ∃ x : Hld, hB x ∧ ∀ j, j < 4 → ∃ v, W.cell? ((a.add (i * 4)).add j) = some v ∧ Vd.one v ∧ RelC W (fun _ => False) v (getAt (eH std fun _ => x) j) := by
      intro i hi
      have h1 := hx i hi
      rw [List.getElem?_eq_getElem (by omega)] at h1
      exact hds_one hs hC o0 k0 hs0 hone0 o1 k1 o2 k2 u0 u1 u2 u3 h1
    obtain ⟨F, hF⟩ : ∃ F : Nat → Hld, ∀ i, i < len → hB (F i) ∧ ∀ j, j < 4 → ∃ v, W.cell? ((a.add (i * 4)).add j) = some v ∧ Vd.one v ∧ RelC W (fun _ => False) v (getAt (eH std fun _ => F i) j) :=
      ⟨fun i => if h : i < len then Classical.choose (each i h) else H0, fun i h => by simp only [dif_pos h]; exact Classical.choose_spec (each i h)⟩
    have hadd : ∀ i j, a.add (i * 4 + j) = (a.add (i * 4)).add j := fun i j => by
      unfold Addr.add
      by_cases h1 : i = 0
      · subst h1
        simp
      · by_cases h2 : j = 0
        · subst h2
          simp
        · rw [if_neg (by omega), if_neg h2, if_neg (show ¬ i * 4 = 0 by omega)]
          simp [Nat.add_assoc]
    let L : List (Hld) := (List.range len).map F
    have hlen : L.length = len := by simp [L]
    refine ⟨L, by rw [hlen]; omega, fun i => ?_, rfl, ?_⟩
    · by_cases hi : i < len
      · have e : L.getD i H0 = F i := by simp [L, List.getD_eq_getElem?_getD, hi]
        rw [e]; exact (hF i hi).1
      · have e : L.getD i H0 = H0 := by rw [List.getD_eq_getElem?_getD, List.getElem?_eq_none (by rw [hlen]; omega)]; rfl
        rw [e]; exact hB_0
    show RelC W (fun _ => False) _ (.slc L.length 4 (rowF eH H0 std fun _ => L))
    rw [hlen]
    have hget : ∀ i, i < len → L.getD i H0 = F i := fun i hi => by simp [L, List.getD_eq_getElem?_getD, hi]
    refine .slc (some a) len cap 4 _ (fun i j => (W.cell? (a.add (i * 4 + j))).getD undef) hl (fun i j hi hj => ?_) (fun h0 => ⟨a, rfl, ?_⟩) (fun i j hi hj => ?_)
    · obtain ⟨v, h1, h2, _⟩ := (hF i hi).2 j hj
      rw [hadd, h1]
      exact ⟨a, rfl, (hadd i j).symm ▸ h1, h2, fun h => h⟩
    · obtain ⟨v, h1, _⟩ := (hF 0 h0).2 0 (by omega)
      simpa [Addr.add] using World.cell?_spot h1
    · obtain ⟨v, h1, _, h3⟩ := (hF i hi).2 j hj
      simp only [hadd, h1, Option.getD_some]
      show RelC W _ v (getAt (eH std fun _ => L.getD i H0) j)
      rw [hget i hi]
      exact h3
theorem open_hds_rel {W : World} {base : Nat} {t e : TypeId} {v : Value} {d : DataW H} {p : List MemPlace} {ρ : Nat → Value} {N : Nat → Prop} (ht : P.underlying t = some (.slice e)) {f0 f1 f2 g00 g01 : Field} (hs : P.underlying e = some (.struct #[f0, f1, f2])) (hC : P.cellsOf e = 4)
    (o0 : f0.offset = 0) (k0 : P.cellsOf f0.type = 2) (hs0 : P.underlying f0.type = some (.struct #[g00, g01])) (hone0 : oneCellFields P #[g00, g01] = true) (o1 : f1.offset = 2) (k1 : P.cellsOf f1.type = 1) (o2 : f2.offset = 3) (k2 : P.cellsOf f2.type = 1) 
    (u0 : P.underlying g00.type = some (.int .u32)) (u1 : P.underlying g01.type = some (.string)) (u2 : P.underlying f1.type = some (.int .u64)) (u3 : P.underlying f2.type = some (.int .i64)) 
    (hval : Value.okWide P W .any base t v) (h : DataW.Trod enc P W 0 (fun _ => true) true t v d p) :
    ∃ L : List (Hld), L.length ≤ maxLen ∧ (∀ i, hB (L.getD i H0)) ∧ Rel W ρ (fun _ => False) N v (rowS eH H0 4 std fun _ => L) := by
  obtain ⟨a1, len, cap, rfl⟩ := okWide_slice ht hval
  obtain ⟨fuel, hf⟩ := h
  simp only [Value.cells] at hf
  obtain ⟨L, hL, hB, _, hr⟩ := open_hds_trod ht hs hC o0 k0 hs0 hone0 o1 k1 o2 k2 u0 u1 u2 u3 (by simpa using hf)
  exact ⟨L, hL, hB, hr.rel⟩
theorem open_agg1 {W : World} {b0 : Nat} {t : TypeId} {f0 : Field} {v : Value} {d : DataW H} {p : List MemPlace} (hs : P.underlying t = some (.struct #[f0])) (hone : oneCellFields P #[f0] = true) (hC : P.cellsOf t = 1)
    (hv : Value.okWide P W .any b0 t v) (h : DataW.Trod enc P W 0 (fun _ => true) true t v d p) :
    ∃ (v0 : Value) (y0 : DataW H × List MemPlace) (n : Nat), v = .agg #[v0] ∧ d = .agg [y0.1] ∧ p = y0.2 ∧ DataW.trod enc P W 0 (fun _ => true) true n f0.type [v0] = some y0 := by
  obtain ⟨cs, rfl, hsz⟩ := okWide_struct hs hv
  obtain ⟨c0, rfl⟩ : ∃ c0, cs = #[c0] := by
    obtain ⟨l⟩ := cs
    match l, (hsz.trans hC : (Array.mk l).size = 1) with
    | [c0], _ => exact ⟨c0, rfl⟩
  obtain ⟨fuel, hf⟩ := h
  obtain ⟨xs, n, _, hx, hl, hlen, hf⟩ := DataW.trod_struct hs hf
  match xs, hlen with
  | [y0], _ =>
    obtain ⟨o0, k0⟩ := hone_of hone 0 f0 rfl
    have q0 := hf 0 f0 rfl
    rw [o0, k0] at q0
    simp only [Prod.mk.injEq] at hx
    exact ⟨c0, y0, n, rfl, by simpa using hx.1, by simpa using hx.2, by simpa [Value.cells] using q0⟩
end
end Go.Vd

