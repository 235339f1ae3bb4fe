/- Shards: swap, remove. -/
import Derived.Test.YtjgfkbmplgiinaaDoorVdS4
import Derived.WalkKit
import Derived.LoopTactic
import Derived.LoopN
import Derived.StillTailTactics
import Derived.Shelf.SlSortCmp.WholeK
import Derived.Test.YtjgfkbmplgiinaaDoorVdN0
import Derived.Test.YtjgfkbmplgiinaaDoorProg
import Derived.Shelf.SlGeneric
import Derived.Ground.SlsfProg
set_option linter.unusedVariables false
set_option linter.unusedSimpArgs false
set_option maxRecDepth 100000
set_option maxHeartbeats 8000000
namespace Go.Vd
open Go.Proofs
theorem pos_lt : ∀ {L : List Ent} {s : Int} {r : List UInt8} {t : Nat}, t < pos L s r → ltK s r (L.getD t E0) = true
  | [], s, r, t, h => by simp [pos] at h
  | e :: L, s, r, t, h => by
    unfold pos at h
    rw [List.takeWhile_cons] at h
    by_cases h1 : ltK s r e = true
    · rw [if_pos h1, List.length_cons] at h
      cases t with
      | zero => exact h1
      | succ t => exact pos_lt (L := L) (by unfold pos; omega)
    · rw [if_neg h1] at h; simp at h
theorem pos_ge : ∀ {L : List Ent} {s : Int} {r : List UInt8}, pos L s r < L.length → ltK s r (L.getD (pos L s r) E0) = false
  | [], s, r, h => by simp at h
  | e :: L, s, r, h => by
    unfold pos at h ⊢
    rw [List.takeWhile_cons] at h ⊢
    by_cases h1 : ltK s r e = true
    · rw [if_pos h1, List.length_cons] at h ⊢
      exact pos_ge (L := L) (by unfold pos; rw [List.length_cons] at h; omega)
    · rw [if_neg h1]
      simpa using h1
theorem pos_far {L : List Ent} (hasc : ascP L) {s : Int} {r : List UInt8} {t : Nat} (h1 : pos L s r ≤ t) (h2 : t < L.length) : ltK s r (L.getD t E0) = false := by
  cases hq : ltK s r (L.getD t E0)
  · rfl
  · have := ltK_mono hasc h1 h2 hq
    rw [pos_ge (by omega)] at this
    cases this
theorem has_pos {L : List Ent} (hasc : ascP L) {s : Int} {r : List UInt8} (h : has L s r = true) : pos L s r < L.length ∧ kE s r (L.getD (pos L s r) E0) = true :=
  (has_at hasc (fun _ ht => pos_lt ht) (fun _ h1 h2 => pos_far hasc h1 h2)).1 h
def swL (L : List Ent) (z : Int) (e : Ent) : List Ent := if (shR L && eR e) = true then (if has L e.s e.r = true then (if (L.getD (pos L e.s e.r) E0).st = z then L.set (pos L e.s e.r) e else L) else L) else L
def swC (L : List Ent) (z : Int) (e : Ent) : Int := if (shR L && eR e) = true then (if has L e.s e.r = true then (if (L.getD (pos L e.s e.r) E0).st = z then 0 else 8) else 5) else 1
theorem swL_1 {L : List Ent} {z : Int} {e : Ent} (h : (bif shR L then eR e else false) = false) : swL L z e = L ∧ swC L z e = 1 := by
  have h2 : ¬(shR L && eR e) = true := by cases h1 : shR L <;> simp [h1] at h ⊢; exact h
  unfold swL swC
  rw [if_neg h2, if_neg h2]
  exact ⟨rfl, rfl⟩
theorem swL_5 {L : List Ent} {z : Int} {e : Ent} (h : (bif shR L then eR e else false) = true) (h2 : has L e.s e.r = false) : swL L z e = L ∧ swC L z e = 5 := by
  unfold swL swC
  rw [if_pos (insR h), if_pos (insR h), h2]
  simp
theorem swL_8 {L : List Ent} {z : Int} {e : Ent} (h : (bif shR L then eR e else false) = true) (h2 : has L e.s e.r = true) (h3 : ¬(L.getD (pos L e.s e.r) E0).st = z) : swL L z e = L ∧ swC L z e = 8 := by
  unfold swL swC
  rw [if_pos (insR h), if_pos (insR h), if_pos h2, if_pos h2, if_neg h3, if_neg h3]
  exact ⟨rfl, rfl⟩
theorem swL_0 {L : List Ent} {z : Int} {e : Ent} (h : (bif shR L then eR e else false) = true) (h2 : has L e.s e.r = true) (h3 : (L.getD (pos L e.s e.r) E0).st = z) : swL L z e = L.set (pos L e.s e.r) e ∧ swC L z e = 0 := by
  unfold swL swC
  rw [if_pos (insR h), if_pos (insR h), if_pos h2, if_pos h2, if_pos h3, if_pos h3]
  exact ⟨rfl, rfl⟩
theorem nb_f {b : Bool} (h : (!b) = true) : b = false := by cases b <;> simp at h ⊢
attribute [local irreducible] vc
theorem good_shSwap (L : List Ent) (z s st am tr ca : Int) (r pan code : List UInt8) (hL : L.length ≤ 1000000) (hS : ∀ i, enS (L.getD i E0)) (hp : pan.length ≤ 100000) (hcc : code.length ≤ 1000000) : GoodP Tryd.prog gl0 38 [rowS eE E0 8 std fun _ => L, .int .i64 z, .agg [.int .u32 s, .str r, .int .i64 st, .str pan, .int .u64 am, .str code, .int .i64 tr, .int .i64 ca]] (.tup [rowS eE E0 8 std fun _ => swL L z ⟨s, r, st, pan, am, code, tr, ca⟩, .int .i64 (std.ti fun _ => swC L z ⟨s, r, st, pan, am, code, tr, ca⟩)]) := by
  refine fn_sound' (T := seatT) (G := gs4) (X := noX) seatT_ok gs4_ok noX_ok noI_ok mixed Tryd.func38 (.none) (fun A => [rowS eE E0 8 A fun _ => L, .int .i64 z, .agg [.int .u32 s, .str r, .int .i64 st, .str pan, .int .u64 am, .str code, .int .i64 tr, .int .i64 ca]]) (fun A => .tup [rowS eE E0 8 A fun _ => swL L z ⟨s, r, st, pan, am, code, tr, ca⟩, .int .i64 (A.ti fun _ => swC L z ⟨s, r, st, pan, am, code, tr, ca⟩)]) fun A hA => ?_
  obtain ⟨E, hE⟩ : ∃ E : Ent, E = ⟨s, r, st, pan, am, code, tr, ca⟩ := ⟨_, rfl⟩
  rw [← hE]
  cbv
  repeat' (first | with_reducible exact True.intro | with_reducible exact dr_ok hA (by kernel_rfl) | with_reducible refine And.intro ?_ ?_ | (intro hc; cbv))
  all_goals (subst hA; simp only [std_add, std_sub, std_mul, std_quo, std_rem, std_band, std_bor, std_bxor, std_shl, std_shr, std_eq, std_ne, std_lt, std_le, std_conv, std_not, std_beq, std_bne, std_ite, std_want, std_and2, std_sadd, std_seq, std_sne, std_slt, std_sle, std_sgt, std_sge, std_slen, std_sget, std_scut, std_ofNat, std_toNat, std_nsub, std_nadd, std_lenOf, std_nz, std_nneg, std_inb, std_upto, std_slt63, std_grow, std_imp, std_impN, std_tr, std_tb, std_ti, std_ts, std_tn, std_tp, std_nmin, std_makes, std_room, std_zeros, std_nilq, std_notq, std_eqi, std_eqn, std_eqb, std_eqs, std_eqv, std_cat, std_lst, std_rset, std_rcopy, std_shift, std_eqr, std_strOf, std_bytesOf, std_isB, std_zOf, zOf_int, std_isI, isI_int, std_getL, std_nmul, std_sOf, sOf_str, std_isS, isS_str, std_fadd, std_fsub, std_fav, std_fsv, std_feq, std_fne, std_flt, std_fle, std_fgt, std_fge, std_fOf, std_fTo, std_fTv, lstOf_V, isRow_V] at *)
  all_goals first
    | exact ⟨isRow_V L, hL⟩
    | exact ⟨trivial, hL⟩
    | exact ⟨isRow_V L, hL, hS⟩
    | exact ⟨trivial, hL, hS⟩
    | (intro h; exact ⟨h, hp, hcc⟩)
    | (intro h; simp only [Bool.true_and, Bool.beq_eq_decide_eq, decide_eq_true_eq]; exact h)
    | (have hr : (bif shR L then eR ⟨s, r, st, pan, am, code, tr, ca⟩ else false) = false := nb_f hc
       rw [← hE] at hr
       have h1 := swL_1 (z := z) hr
       first
         | (rw [h1.1]; done)
         | (rw [h1.1]; exact (Reps.lit _).eqr)
         | (rw [h1.2]; done))
    | (have hq : (!bif shR L then eR ⟨s, r, st, pan, am, code, tr, ca⟩ else false) = false := by assumption
       have hr := nb_t hq
       have hs : shR L = true := by cases h : shR L <;> simp [h] at hr ⊢
       have h0 := shR_asc hs
       rw [← hE] at hr
       have eS : E.s = s := by rw [hE]
       have eR' : E.r = r := by rw [hE]
       first
         | exact ⟨isRow_V L, hL, h0.1⟩
         | exact ⟨trivial, hL, h0.1⟩
         | (have h2 : (!has L s r) = true := by assumption
            have h1 := swL_5 (z := z) hr (by rw [eS, eR']; exact nb_f h2)
            first
              | (rw [h1.1]; done)
              | (rw [h1.1]; exact (Reps.lit _).eqr)
              | (rw [h1.2]; done))
         | (have h2 : (!has L s r) = false := by assumption
            have h3 := has_pos ((ascB_iff L).1 h0.1) (nb_t h2)
            first
              | exact ⟨Int.natCast_nonneg _, Int.ofNat_lt.2 h3.1⟩
              | (have h4 : ((L.getD ((pos L s r : Nat) : Int).toNat { s := 0, r := [], st := 0, pan := [], am := 0, code := [], tr := 0, ca := 0 }).st != z) = true := by assumption
                 have h1 := swL_8 (z := z) hr (by rw [eS, eR']; exact nb_t h2) (by rw [eS, eR']; rw [Int.toNat_natCast] at h4; exact (bne_iff_ne).1 h4)
                 first
                   | (rw [h1.1]; done)
                   | (rw [h1.1]; exact (Reps.lit _).eqr)
                   | (rw [h1.2]; done))
              | (have h4 : ((L.getD ((pos L s r : Nat) : Int).toNat { s := 0, r := [], st := 0, pan := [], am := 0, code := [], tr := 0, ca := 0 }).st != z) = false := by assumption
                 have h1 := swL_0 (z := z) hr (by rw [eS, eR']; exact nb_t h2) (by rw [eS, eR']; rw [Int.toNat_natCast] at h4; exact bne_eq_false_iff_eq.1 h4)
                 rw [eS, eR'] at h1
                 first
                   | (rw [h1.1]; simp; done)
                   | (rw [h1.2]; done)
                   | (rw [Int.toNat_natCast]
                      exact eqr_of ((Reps.lit L).rset' (i := pos L s r) h3.1 ⟨s, r, st, pan, am, code, tr, ca⟩ rfl (cell_eE ⟨s, r, st, pan, am, code, tr, ca⟩)) (by rw [h1.1]; simp) (by rw [h1.1, hE]))
                   | trace_state)
              | trace_state)
         | trace_state)
    | trace_state
noncomputable def c_shSwap : Ct := fun A args => match args with
  | [.slc n 8 f, .int .i64 z, .agg [.int .u32 s, .str r, .int .i64 st, .str pan, .int .u64 am, .str code, .int .i64 tr, .int .i64 ca]] => some (some (A.tp fun _ => (isRow eE E0 8 n f ∧ n ≤ 1000000 ∧ ∀ i, enS ((lstOf eE E0 8 n f).getD i E0)) ∧ pan.length ≤ 100000 ∧ code.length ≤ 1000000), .tup [rowS eE E0 8 A fun _ => swL (lstOf eE E0 8 n f) z ⟨s, r, st, pan, am, code, tr, ca⟩, .int .i64 (A.ti fun _ => swC (lstOf eE E0 8 n f) z ⟨s, r, st, pan, am, code, tr, ca⟩)])
  | _ => none
def rmL (L : List Ent) (s : Int) (r : List UInt8) : List Ent := if shR L = true then (if has L s r = true then L.take (pos L s r) ++ L.drop (pos L s r + 1) else L) else L
def rmC (L : List Ent) (s : Int) (r : List UInt8) : Int := if shR L = true then (if has L s r = true then 0 else 5) else 1
theorem rm_1 {L : List Ent} {s : Int} {r : List UInt8} (h : shR L = false) : rmL L s r = L ∧ rmC L s r = 1 := by
  unfold rmL rmC; rw [h]; simp
theorem rm_5 {L : List Ent} {s : Int} {r : List UInt8} (h : shR L = true) (h2 : has L s r = false) : rmL L s r = L ∧ rmC L s r = 5 := by
  unfold rmL rmC; rw [h, h2]; simp
theorem rm_0 {L : List Ent} {s : Int} {r : List UInt8} (h : shR L = true) (h2 : has L s r = true) : rmL L s r = L.take (pos L s r) ++ L.drop (pos L s r + 1) ∧ rmC L s r = 0 := by
  unfold rmL rmC; rw [h, h2]; simp
theorem rm_take (L : List Ent) {p : Nat} (hp : p < L.length) : L.take p ++ L.drop (p + 1) = (L.take p ++ L.drop (p + 1) ++ L.drop (p + (L.length - (p + 1)))).take (p + (L.length - (p + 1))) := by
  have l : (L.take p ++ L.drop (p + 1)).length = p + (L.length - (p + 1)) := by rw [List.length_append, List.length_take, List.length_drop]; omega
  rw [List.take_append, l, Nat.sub_self, List.take_zero, List.append_nil, List.take_of_length_le (l := L.take p ++ L.drop (p + 1)) (by omega)]
theorem cut_out {N a m : Nat} {f z : Nat → Nat → SV} {R M : List Ent} (h : Reps eE E0 8 N f R) (ha : a ≤ N) (hM : M = R.take a) : eqrS a 8 (shiftS (rcopyS f a m z) 0) (rowF eE E0 std fun _ => M) := by
  intro i j hi hj
  show Ceq (if a ≤ 0 + i ∧ 0 + i < a + m then z (0 + i - a) j else f (0 + i) j) _
  rw [if_neg (by omega), Nat.zero_add]
  refine (h.2 i j (by omega) hj).trans (.of_eq ?_)
  rw [hM]
  simp [rowF, List.getD_eq_getElem?_getD, List.getElem?_take_of_lt hi]
theorem rm_reps (L : List Ent) {p : Nat} (hp : p < L.length) : Reps eE E0 8 L.length (rcopyS (rowF eE E0 std fun _ => L) p (L.length - (p + 1)) (shiftS (rowF eE E0 std fun _ => L) (p + 1))) (L.take p ++ L.drop (p + 1) ++ L.drop (p + (L.length - (p + 1)))) := by
  have h := (Reps.lit (enc := eE) (d := E0) (k := 8) L).rcopy ((Reps.lit (enc := eE) (d := E0) (k := 8) L).shift (m := L.length - (p + 1)) (p + 1) (by omega)) p (by omega)
  rw [List.take_of_length_le (l := L.drop (p + 1)) (by rw [List.length_drop]; exact Nat.le_refl _)] at h
  exact h
noncomputable def iS5 : Nat → Option Func := addI 55 Tryd.f55 noI
theorem iS5_ok : InOk Tryd.prog iS5 := addI_ok noI_ok Tryd.func55 (by kernel_rfl)
theorem good_shRemove (L : List Ent) (s : Int) (r : List UInt8) (hL : L.length ≤ 1000000) (hS : ∀ i, enS (L.getD i E0)) : GoodP Tryd.prog gl0 39 [rowS eE E0 8 std fun _ => L, .agg [.int .u32 s, .str r]] (.tup [rowS eE E0 8 std fun _ => rmL L s r, .int .i64 (std.ti fun _ => rmC L s r)]) := by
  refine fn_sound' (T := seatT) (G := gs4) (X := noX) seatT_ok gs4_ok noX_ok iS5_ok mixed Tryd.func39 (.none) (fun A => [rowS eE E0 8 A fun _ => L, .agg [.int .u32 s, .str r]]) (fun A => .tup [rowS eE E0 8 A fun _ => rmL L s r, .int .i64 (A.ti fun _ => rmC L s r)]) fun A hA => ?_
  cbv
  repeat' (first | with_reducible exact True.intro | with_reducible exact dr_ok hA (by kernel_rfl) | with_reducible refine And.intro ?_ ?_ | (intro hc; cbv))
  all_goals (subst hA; simp only [std_add, std_sub, std_mul, std_quo, std_rem, std_band, std_bor, std_bxor, std_shl, std_shr, std_eq, std_ne, std_lt, std_le, std_conv, std_not, std_beq, std_bne, std_ite, std_want, std_and2, std_sadd, std_seq, std_sne, std_slt, std_sle, std_sgt, std_sge, std_slen, std_sget, std_scut, std_ofNat, std_toNat, std_nsub, std_nadd, std_lenOf, std_nz, std_nneg, std_inb, std_upto, std_slt63, std_grow, std_imp, std_impN, std_tr, std_tb, std_ti, std_ts, std_tn, std_tp, std_nmin, std_makes, std_room, std_zeros, std_nilq, std_notq, std_eqi, std_eqn, std_eqb, std_eqs, std_eqv, std_cat, std_lst, std_rset, std_rcopy, std_shift, std_eqr, std_strOf, std_bytesOf, std_isB, std_zOf, zOf_int, std_isI, isI_int, std_getL, std_nmul, std_sOf, sOf_str, std_isS, isS_str, std_fadd, std_fsub, std_fav, std_fsv, std_feq, std_fne, std_flt, std_fle, std_fgt, std_fge, std_fOf, std_fTo, std_fTv, lstOf_V, isRow_V] at *)
  all_goals first
    | exact ⟨isRow_V L, hL⟩
    | exact ⟨trivial, hL⟩
    | exact ⟨isRow_V L, hL, hS⟩
    | exact ⟨trivial, hL, hS⟩
    | (have h1 := rm_1 (s := s) (r := r) (nb_f hc)
       first
         | (rw [h1.1]; done)
         | (rw [h1.1]; exact (Reps.lit _).eqr)
         | (rw [h1.2]; done))
    | exact ⟨Int.natCast_nonneg _, Int.ofNat_lt.2 (Nat.lt_succ_self _)⟩
    | (have hq : (!shR L) = false := by assumption
       have hs := nb_t hq
       have h0 := shR_asc hs
       first
         | exact ⟨isRow_V L, hL, h0.1⟩
         | exact ⟨trivial, hL, h0.1⟩
         | (have h2 : (!has L s r) = true := by assumption
            have h1 := rm_5 hs (nb_f h2)
            first
              | (rw [h1.1]; done)
              | (rw [h1.1]; exact (Reps.lit _).eqr)
              | (rw [h1.2]; done))
         | (have h2 : (!has L s r) = false := by assumption
            have h3 := (has_pos ((ascB_iff L).1 h0.1) (nb_t h2)).1
            have h1 := rm_0 hs (nb_t h2)
            have hR := rm_reps L h3
            obtain ⟨p, hpp⟩ : ∃ p, p = pos L s r := ⟨_, rfl⟩
            rw [← hpp] at h3 h1 hR
            simp only [← hpp] at hc ⊢
            have hw : IntKind.i64.wrap ((p : Int) + 1) = ((p + 1 : Nat) : Int) := by rw [w64 (by omega)]; omega
            simp only [hw, Int.toNat_natCast, Nat.zero_add, Nat.sub_zero] at hc ⊢
            first
              | (exfalso; have hb := Int.ofNat_inj.1 (beq_iff_eq.1 hc); omega)
              | exact ⟨Int.natCast_nonneg _, Int.ofNat_lt.2 (by omega)⟩
              | omega
              | (refine ⟨?_, ?_⟩ <;> omega)
              | (rw [h1.2]; done)
              | (rw [h1.1]; simp; omega)
              | (have hn : (rmL L s r).length = p + (L.length - (p + 1)) := by rw [h1.1]; simp; omega
                 rw [hn]
                 exact cut_out hR (by omega) (h1.1.trans (rm_take L h3)))
              | trace_state)
         | trace_state)
    | trace_state
noncomputable def c_shRemove : Ct := fun A args => match args with
  | [.slc n 8 f, .agg [.int .u32 s, .str r]] => some (some (A.tp fun _ => isRow eE E0 8 n f ∧ n ≤ 1000000 ∧ ∀ i, enS ((lstOf eE E0 8 n f).getD i E0)), .tup [rowS eE E0 8 A fun _ => rmL (lstOf eE E0 8 n f) s r, .int .i64 (A.ti fun _ => rmC (lstOf eE E0 8 n f) s r)])
  | _ => none
noncomputable def gs6 : Ar → Pu := addC 38 c_shSwap (addC 39 c_shRemove (gs5))
theorem gs6_ok : PuOk Tryd.prog gl0 (gs6 std) := by
  refine addC_ok (addC_ok (gs5_ok) ⟨_, Tryd.func39, rfl, by decide⟩ ?_) ⟨_, Tryd.func38, rfl, by decide⟩ ?_
  · intro args p r h hp
    unfold c_shRemove at h
    split at h <;> cases h
    exact good_sv (good_shRemove _ _ _ (by rw [lstOf_length hp.1]; exact hp.2.1) hp.2.2) ⟨hp.1.sv, ⟨_, rfl, rfl, rfl, trivial⟩, trivial⟩
  · intro args p r h hp
    unfold c_shSwap at h
    split at h <;> cases h
    exact good_sv (good_shSwap _ _ _ _ _ _ _ _ _ _ (by rw [lstOf_length hp.1.1]; exact hp.1.2.1) hp.1.2.2 hp.2.1 hp.2.2) ⟨hp.1.1.sv, rfl, ⟨_, rfl, rfl, rfl, rfl, rfl, rfl, rfl, rfl, rfl, trivial⟩, trivial⟩
end Go.Vd

set_option linter.unusedVariables false
set_option linter.unusedSimpArgs false
set_option maxRecDepth 100000
set_option maxHeartbeats 8000000
namespace Go.Vd
open Go.Proofs
attribute [local irreducible] vc
theorem good_kShort (s : Int) (r : List UInt8) : GoodP Tryd.prog gl0 16 [sKey std s r] (.bool (std.tb fun _ => decide (r.length ≤ 300))) := by
  refine fn_sound' (T := seatT) (G := noC) (X := noX) seatT_ok noC_ok noX_ok noI_ok mixed Tryd.func16 (.one) (fun A => [sKey A s r]) (fun A => .bool (A.tb fun _ => decide (r.length ≤ 300))) fun A hA => ?_
  cbv
  repeat' (first | with_reducible exact True.intro | with_reducible exact dr_ok hA (by kernel_rfl) | with_reducible refine And.intro ?_ ?_ | (intro hc; cbv))
  all_goals (subst hA; simp [std_add, std_sub, std_mul, std_quo, std_rem, std_band, std_bor, std_bxor, std_shl, std_shr, std_eq, std_ne, std_lt, std_le, std_conv, std_not, std_beq, std_bne, std_ite, std_want, std_and2, std_sadd, std_seq, std_sne, std_slt, std_sle, std_sgt, std_sge, std_slen, std_sget, std_scut, std_ofNat, std_toNat, std_nsub, std_nadd, std_lenOf, std_nz, std_nneg, std_inb, std_upto, std_slt63, std_grow, std_imp, std_impN, std_tr, std_tb, std_ti, std_ts, std_tn, std_tp, std_nmin, std_makes, std_room, std_zeros, std_nilq, std_notq, std_eqi, std_eqn, std_eqb, std_eqs, std_eqv, std_cat, std_lst, std_rset, std_rcopy, std_shift, std_eqr, std_strOf, std_bytesOf, std_isB, std_zOf, zOf_int, std_isI, isI_int, std_getL, std_nmul, std_sOf, sOf_str, std_isS, isS_str, std_fadd, std_fsub, std_fav, std_fsv, std_feq, std_fne, std_flt, std_fle, std_fgt, std_fge, std_fOf, std_fTo, std_fTv] at *)
  all_goals omega
noncomputable def c_kShort : Ct := fun A args => match args with
  | [.agg [.int .u32 s, .str r]] => some (none, .bool (A.tb fun _ => decide (r.length ≤ 300)))
  | _ => none
noncomputable def gs7 : Ar → Pu := addC 16 c_kShort (gs6)
theorem gs7_ok : PuOk Tryd.prog gl0 (gs7 std) := by
  refine addC_ok (gs6_ok) ⟨_, Tryd.func16, rfl, by decide⟩ ?_
  · intro args p r h hp
    unfold c_kShort at h
    split at h <;> cases h
    exact good_kShort _ _
def shE (e : Ent) : Bool := decide (e.r.length ≤ 300 ∧ e.pan.length ≤ 300 ∧ e.code.length ≤ 300)
theorem good_eShort (s st am tr ca : Int) (r pan code : List UInt8) : GoodP Tryd.prog gl0 15 [.agg [.int .u32 s, .str r, .int .i64 st, .str pan, .int .u64 am, .str code, .int .i64 tr, .int .i64 ca]] (.bool (std.tb fun _ => shE ⟨s, r, st, pan, am, code, tr, ca⟩)) := by
  refine fn_sound' (T := seatT) (G := gs7) (X := noX) seatT_ok gs7_ok noX_ok noI_ok mixed Tryd.func15 (.one) (fun A => [.agg [.int .u32 s, .str r, .int .i64 st, .str pan, .int .u64 am, .str code, .int .i64 tr, .int .i64 ca]]) (fun A => .bool (A.tb fun _ => shE ⟨s, r, st, pan, am, code, tr, ca⟩)) fun A hA => ?_
  cbv
  repeat' (first | with_reducible exact True.intro | with_reducible exact dr_ok hA (by kernel_rfl) | with_reducible refine And.intro ?_ ?_ | (intro hc; cbv))
  all_goals (subst hA; try simp [std_add, std_sub, std_mul, std_quo, std_rem, std_band, std_bor, std_bxor, std_shl, std_shr, std_eq, std_ne, std_lt, std_le, std_conv, std_not, std_beq, std_bne, std_ite, std_want, std_and2, std_sadd, std_seq, std_sne, std_slt, std_sle, std_sgt, std_sge, std_slen, std_sget, std_scut, std_ofNat, std_toNat, std_nsub, std_nadd, std_lenOf, std_nz, std_nneg, std_inb, std_upto, std_slt63, std_grow, std_imp, std_impN, std_tr, std_tb, std_ti, std_ts, std_tn, std_tp, std_nmin, std_makes, std_room, std_zeros, std_nilq, std_notq, std_eqi, std_eqn, std_eqb, std_eqs, std_eqv, std_cat, std_lst, std_rset, std_rcopy, std_shift, std_eqr, std_strOf, std_bytesOf, std_isB, std_zOf, zOf_int, std_isI, isI_int, std_getL, std_nmul, std_sOf, sOf_str, std_isS, isS_str, std_fadd, std_fsub, std_fav, std_fsv, std_feq, std_fne, std_flt, std_fle, std_fgt, std_fge, std_fOf, std_fTo, std_fTv, shE] at *)
  all_goals first
    | (rw [Bool.eq_iff_iff]; simp; omega)
    | trace_state
noncomputable def c_eShort : Ct := fun A args => match args with
  | [.agg [.int .u32 s, .str r, .int .i64 st, .str pan, .int .u64 am, .str code, .int .i64 tr, .int .i64 ca]] => some (none, .bool (A.tb fun _ => shE ⟨s, r, st, pan, am, code, tr, ca⟩))
  | _ => none
noncomputable def gs8 : Ar → Pu := addC 15 c_eShort (gs7)
theorem gs8_ok : PuOk Tryd.prog gl0 (gs8 std) := by
  refine addC_ok (gs7_ok) ⟨_, Tryd.func15, rfl, by decide⟩ ?_
  · intro args p r h hp
    unfold c_eShort at h
    split at h <;> cases h
    exact good_eShort _ _ _ _ _ _ _ _
def shL (L : List Ent) : Bool := decide (L.length ≤ 200) && L.all shE
theorem shL_iff {L : List Ent} : shL L = true ↔ L.length ≤ 200 ∧ ∀ e ∈ L, shE e = true := by simp [shL]
theorem shL_no {L : List Ent} {i : Nat} (hi : i < L.length) (h : shE (L.getD i E0) = false) : shL L = false := by
  cases e : shL L
  · rfl
  · have := (shL_iff.1 e).2 (L.getD i E0) (by rw [List.getD_eq_getElem?_getD, List.getElem?_eq_getElem hi]; exact List.getElem_mem hi)
    rw [h] at this
    cases this
theorem shL_yes {L : List Ent} (h : ∀ j, j < L.length → shE (L.getD j E0) = true) : shL L = decide (L.length ≤ 200) := by
  have : L.all shE = true := List.all_eq_true.2 fun d hd => by
    obtain ⟨j, hj, e⟩ := List.getElem_of_mem hd
    have := h j hj
    rw [List.getD_eq_getElem?_getD, List.getElem?_eq_getElem hj] at this
    exact e ▸ this
  unfold shL
  rw [this, Bool.and_true]
theorem shL_big {L : List Ent} (h : ¬L.length ≤ 200) : shL L = false := by simp [shL, h]
theorem shL_enS {L : List Ent} (h : shL L = true) (i : Nat) : enS (L.getD i E0) := by
  rcases Nat.lt_or_ge i L.length with q | q
  · have := (shL_iff.1 h).2 (L.getD i E0) (by rw [List.getD_eq_getElem?_getD, List.getElem?_eq_getElem q]; exact List.getElem_mem q)
    simp only [shE, decide_eq_true_eq] at this
    exact ⟨by omega, by omega⟩
  · rw [List.getD_eq_getElem?_getD, List.getElem?_eq_none q]
    exact ⟨by decide, by decide⟩
theorem good_sShort (L : List Ent) (hL : L.length ≤ 9223372036854775807) : GoodP Tryd.prog gl0 6 [rowS eE E0 8 std fun _ => L] (.bool (std.tb fun _ => shL L)) := by
  refine fn_sound' (T := seatT) (G := gs8) (X := noX) seatT_ok gs8_ok noX_ok noI_ok mixed Tryd.func6 (.one) (fun A => [rowS eE E0 8 A fun _ => L]) (fun A => .bool (A.tb fun _ => shL L)) fun A hA => ?_
  cbv
  repeat' (first | with_reducible exact True.intro | with_reducible exact dr_ok hA (by kernel_rfl) | with_reducible refine And.intro ?_ ?_ | (intro hc; cbv))
  refine ⟨⟨{i : Nat // i ≤ L.length ∧ i ≤ 200 ∧ ∀ j, j < i → shE (L.getD j E0) = true}, fun b i => [(3, .int .i64 (i.1 : Nat))], fun b i => [], fun i => L.length - i.1, true⟩, ⟨⟨0, by omega, by omega, by simp⟩, ?_⟩, ?_⟩
  · cbv
    subst hA
    simp [-List.getD_eq_getElem?_getD, std_add, std_sub, std_mul, std_quo, std_rem, std_band, std_bor, std_bxor, std_shl, std_shr, std_eq, std_ne, std_lt, std_le, std_conv, std_not, std_beq, std_bne, std_ite, std_want, std_and2, std_sadd, std_seq, std_sne, std_slt, std_sle, std_sgt, std_sge, std_slen, std_sget, std_scut, std_ofNat, std_toNat, std_nsub, std_nadd, std_lenOf, std_nz, std_nneg, std_inb, std_upto, std_slt63, std_grow, std_imp, std_impN, std_tr, std_tb, std_ti, std_ts, std_tn, std_tp, std_nmin, std_makes, std_room, std_zeros, std_nilq, std_notq, std_eqi, std_eqn, std_eqb, std_eqs, std_eqv, std_cat, std_lst, std_rset, std_rcopy, std_shift, std_eqr, std_strOf, std_bytesOf, std_isB, std_zOf, zOf_int, std_isI, isI_int, std_getL, std_nmul, std_sOf, sOf_str, std_isS, isS_str, std_fadd, std_fsub, std_fav, std_fsv, std_feq, std_fne, std_flt, std_fle, std_fgt, std_fge, std_fOf, std_fTo, std_fTv]
  · rintro ⟨i, hx⟩
    have hi := hx.1
    have hi2 := hx.2.1
    have h0 := hx.2.2
    obtain ⟨e, he⟩ : ∃ e, e = L.getD i E0 := ⟨_, rfl⟩
    have hg : L.getD i { s := 0, r := [], st := 0, pan := [], am := 0, code := [], tr := 0, ca := 0 } = e := he.symm
    by_cases hlt : i < L.length ∧ i < 200
    · have hno := fun h => shL_no (L := L) hlt.1 (he ▸ h)
      cbv
      repeat' (first | with_reducible exact True.intro | with_reducible exact dr_ok hA (by kernel_rfl) | with_reducible refine And.intro ?_ ?_ | (intro hc; cbv))
      all_goals first
        | (fail_if_success (refine Exists.intro ?_ ?_)
           clear h0
           subst hA
           simp [-List.getD_eq_getElem?_getD, std_add, std_sub, std_mul, std_quo, std_rem, std_band, std_bor, std_bxor, std_shl, std_shr, std_eq, std_ne, std_lt, std_le, std_conv, std_not, std_beq, std_bne, std_ite, std_want, std_and2, std_sadd, std_seq, std_sne, std_slt, std_sle, std_sgt, std_sge, std_slen, std_sget, std_scut, std_ofNat, std_toNat, std_nsub, std_nadd, std_lenOf, std_nz, std_nneg, std_inb, std_upto, std_slt63, std_grow, std_imp, std_impN, std_tr, std_tb, std_ti, std_ts, std_tn, std_tp, std_nmin, std_makes, std_room, std_zeros, std_nilq, std_notq, std_eqi, std_eqn, std_eqb, std_eqs, std_eqv, std_cat, std_lst, std_rset, std_rcopy, std_shift, std_eqr, std_strOf, std_bytesOf, std_isB, std_zOf, zOf_int, std_isI, isI_int, std_getL, std_nmul, std_sOf, sOf_str, std_isS, isS_str, std_fadd, std_fsub, std_fav, std_fsv, std_feq, std_fne, std_flt, std_fle, std_fgt, std_fge, std_fOf, std_fTo, std_fTv, hg] at *
           first
             | done
             | exact ⟨(show (0 : Int) ≤ ((i : Nat) : Int) by omega), (show ((i : Nat) : Int) < ((L.length : Nat) : Int) by omega)⟩
             | exact hno hc
             | omega
             | (exfalso; omega)
             | trace_state)
        | (obtain ⟨i', hi'⟩ : ∃ i', i' = i + 1 := ⟨_, rfl⟩
           have hk : shE e = true := by
             clear h0
             subst hA
             simp [-List.getD_eq_getElem?_getD, std_add, std_sub, std_mul, std_quo, std_rem, std_band, std_bor, std_bxor, std_shl, std_shr, std_eq, std_ne, std_lt, std_le, std_conv, std_not, std_beq, std_bne, std_ite, std_want, std_and2, std_sadd, std_seq, std_sne, std_slt, std_sle, std_sgt, std_sge, std_slen, std_sget, std_scut, std_ofNat, std_toNat, std_nsub, std_nadd, std_lenOf, std_nz, std_nneg, std_inb, std_upto, std_slt63, std_grow, std_imp, std_impN, std_tr, std_tb, std_ti, std_ts, std_tn, std_tp, std_nmin, std_makes, std_room, std_zeros, std_nilq, std_notq, std_eqi, std_eqn, std_eqb, std_eqs, std_eqv, std_cat, std_lst, std_rset, std_rcopy, std_shift, std_eqr, std_strOf, std_bytesOf, std_isB, std_zOf, zOf_int, std_isI, isI_int, std_getL, std_nmul, std_sOf, sOf_str, std_isS, isS_str, std_fadd, std_fsub, std_fav, std_fsv, std_feq, std_fne, std_flt, std_fle, std_fgt, std_fge, std_fOf, std_fTo, std_fTv, hg] at hc
             exact hc
           refine ⟨⟨i', by omega, by omega, fun j hj => ?_⟩, ?_, show L.length - i' < L.length - i by omega⟩
           · rcases Nat.lt_or_ge j i with h | h
             · exact h0 j h
             · obtain rfl : j = i := by omega
               rw [← he]; exact hk
           · cbv
             subst hA
             simp [-List.getD_eq_getElem?_getD, std_add, std_sub, std_mul, std_quo, std_rem, std_band, std_bor, std_bxor, std_shl, std_shr, std_eq, std_ne, std_lt, std_le, std_conv, std_not, std_beq, std_bne, std_ite, std_want, std_and2, std_sadd, std_seq, std_sne, std_slt, std_sle, std_sgt, std_sge, std_slen, std_sget, std_scut, std_ofNat, std_toNat, std_nsub, std_nadd, std_lenOf, std_nz, std_nneg, std_inb, std_upto, std_slt63, std_grow, std_imp, std_impN, std_tr, std_tb, std_ti, std_ts, std_tn, std_tp, std_nmin, std_makes, std_room, std_zeros, std_nilq, std_notq, std_eqi, std_eqn, std_eqb, std_eqs, std_eqv, std_cat, std_lst, std_rset, std_rcopy, std_shift, std_eqr, std_strOf, std_bytesOf, std_isB, std_zOf, zOf_int, std_isI, isI_int, std_getL, std_nmul, std_sOf, sOf_str, std_isS, isS_str, std_fadd, std_fsub, std_fav, std_fsv, std_feq, std_fne, std_flt, std_fle, std_fgt, std_fge, std_fOf, std_fTo, std_fTv]
             exact w_succ' hi' (by omega))
        | trace_state
    · have hans : shL L = decide (L.length ≤ 200) := by
        by_cases hb : L.length ≤ 200
        · exact shL_yes fun j hj => h0 j (by omega)
        · rw [shL_big hb, decide_eq_false hb]
      cbv
      repeat' (first | with_reducible exact True.intro | with_reducible exact dr_ok hA (by kernel_rfl) | with_reducible refine And.intro ?_ ?_ | (intro hc; cbv))
      all_goals first
        | (exfalso
           clear h0
           subst hA
           simp [-List.getD_eq_getElem?_getD, std_add, std_sub, std_mul, std_quo, std_rem, std_band, std_bor, std_bxor, std_shl, std_shr, std_eq, std_ne, std_lt, std_le, std_conv, std_not, std_beq, std_bne, std_ite, std_want, std_and2, std_sadd, std_seq, std_sne, std_slt, std_sle, std_sgt, std_sge, std_slen, std_sget, std_scut, std_ofNat, std_toNat, std_nsub, std_nadd, std_lenOf, std_nz, std_nneg, std_inb, std_upto, std_slt63, std_grow, std_imp, std_impN, std_tr, std_tb, std_ti, std_ts, std_tn, std_tp, std_nmin, std_makes, std_room, std_zeros, std_nilq, std_notq, std_eqi, std_eqn, std_eqb, std_eqs, std_eqv, std_cat, std_lst, std_rset, std_rcopy, std_shift, std_eqr, std_strOf, std_bytesOf, std_isB, std_zOf, zOf_int, std_isI, isI_int, std_getL, std_nmul, std_sOf, sOf_str, std_isS, isS_str, std_fadd, std_fsub, std_fav, std_fsv, std_feq, std_fne, std_flt, std_fle, std_fgt, std_fge, std_fOf, std_fTo, std_fTv, hg] at hc
           omega)
        | (exfalso
           clear h0
           subst hA
           rename_i q
           simp [-List.getD_eq_getElem?_getD, std_add, std_sub, std_mul, std_quo, std_rem, std_band, std_bor, std_bxor, std_shl, std_shr, std_eq, std_ne, std_lt, std_le, std_conv, std_not, std_beq, std_bne, std_ite, std_want, std_and2, std_sadd, std_seq, std_sne, std_slt, std_sle, std_sgt, std_sge, std_slen, std_sget, std_scut, std_ofNat, std_toNat, std_nsub, std_nadd, std_lenOf, std_nz, std_nneg, std_inb, std_upto, std_slt63, std_grow, std_imp, std_impN, std_tr, std_tb, std_ti, std_ts, std_tn, std_tp, std_nmin, std_makes, std_room, std_zeros, std_nilq, std_notq, std_eqi, std_eqn, std_eqb, std_eqs, std_eqv, std_cat, std_lst, std_rset, std_rcopy, std_shift, std_eqr, std_strOf, std_bytesOf, std_isB, std_zOf, zOf_int, std_isI, isI_int, std_getL, std_nmul, std_sOf, sOf_str, std_isS, isS_str, std_fadd, std_fsub, std_fav, std_fsv, std_feq, std_fne, std_flt, std_fle, std_fgt, std_fge, std_fOf, std_fTo, std_fTv, hg] at q
           omega)
        | (clear h0
           subst hA
           simp [-List.getD_eq_getElem?_getD, std_add, std_sub, std_mul, std_quo, std_rem, std_band, std_bor, std_bxor, std_shl, std_shr, std_eq, std_ne, std_lt, std_le, std_conv, std_not, std_beq, std_bne, std_ite, std_want, std_and2, std_sadd, std_seq, std_sne, std_slt, std_sle, std_sgt, std_sge, std_slen, std_sget, std_scut, std_ofNat, std_toNat, std_nsub, std_nadd, std_lenOf, std_nz, std_nneg, std_inb, std_upto, std_slt63, std_grow, std_imp, std_impN, std_tr, std_tb, std_ti, std_ts, std_tn, std_tp, std_nmin, std_makes, std_room, std_zeros, std_nilq, std_notq, std_eqi, std_eqn, std_eqb, std_eqs, std_eqv, std_cat, std_lst, std_rset, std_rcopy, std_shift, std_eqr, std_strOf, std_bytesOf, std_isB, std_zOf, zOf_int, std_isI, isI_int, std_getL, std_nmul, std_sOf, sOf_str, std_isS, isS_str, std_fadd, std_fsub, std_fav, std_fsv, std_feq, std_fne, std_flt, std_fle, std_fgt, std_fge, std_fOf, std_fTo, std_fTv, hg] at *
           first
             | done
             | (rw [hans, Bool.eq_iff_iff]; simp; omega)
             | (rw [hans]; simp; done)
             | omega
             | (intros; omega)
             | trace_state)
        | trace_state
noncomputable def c_sShort : Ct := fun A args => match args with
  | [.slc n 8 f] => some (some (A.tp fun _ => isRow eE E0 8 n f ∧ n ≤ 9223372036854775807), .bool (A.tb fun _ => shL (lstOf eE E0 8 n f)))
  | _ => none
theorem Ent_ext {x y : Ent} (h0 : x.s = y.s) (h1 : x.r = y.r) (h2 : x.st = y.st) (h3 : x.pan = y.pan) (h4 : x.am = y.am) (h5 : x.code = y.code) (h6 : x.tr = y.tr) (h7 : x.ca = y.ca) : x = y := by cases x; cases y; simp_all
theorem good_eSame (L M : List Ent) (hL : L.length ≤ 1000000) : GoodP Tryd.prog gl0 13 [rowS eE E0 8 std fun _ => L, rowS eE E0 8 std fun _ => M] (.bool (std.tb fun _ => decide (L = M))) := by
  refine fn_sound' (T := seatT) (G := noC) (X := noX) seatT_ok noC_ok noX_ok noI_ok mixed Tryd.func13 (.one) (fun A => [rowS eE E0 8 A fun _ => L, rowS eE E0 8 A fun _ => M]) (fun A => .bool (A.tb fun _ => decide (L = M))) fun A hA => ?_
  cbv
  repeat' (first | with_reducible exact True.intro | with_reducible exact dr_ok hA (by kernel_rfl) | with_reducible refine And.intro ?_ ?_ | (intro hc; cbv))
  rotate_right
  all_goals first
    | (fail_if_success (refine Exists.intro ?_ ?_)
       subst hA
       simp [std_add, std_sub, std_mul, std_quo, std_rem, std_band, std_bor, std_bxor, std_shl, std_shr, std_eq, std_ne, std_lt, std_le, std_conv, std_not, std_beq, std_bne, std_ite, std_want, std_and2, std_sadd, std_seq, std_sne, std_slt, std_sle, std_sgt, std_sge, std_slen, std_sget, std_scut, std_ofNat, std_toNat, std_nsub, std_nadd, std_lenOf, std_nz, std_nneg, std_inb, std_upto, std_slt63, std_grow, std_imp, std_impN, std_tr, std_tb, std_ti, std_ts, std_tn, std_tp, std_nmin, std_makes, std_room, std_zeros, std_nilq, std_notq, std_eqi, std_eqn, std_eqb, std_eqs, std_eqv, std_cat, std_lst, std_rset, std_rcopy, std_shift, std_eqr, std_strOf, std_bytesOf, std_isB, std_zOf, zOf_int, std_isI, isI_int, std_getL, std_nmul, std_sOf, sOf_str, std_isS, isS_str, std_fadd, std_fsub, std_fav, std_fsv, std_feq, std_fne, std_flt, std_fle, std_fgt, std_fge, std_fOf, std_fTo, std_fTv] at *
       first | done | (intro e; subst e; exact absurd rfl (by assumption)))
    | skip
  have hl : L.length = M.length := by subst hA; simp [std_add, std_sub, std_mul, std_quo, std_rem, std_band, std_bor, std_bxor, std_shl, std_shr, std_eq, std_ne, std_lt, std_le, std_conv, std_not, std_beq, std_bne, std_ite, std_want, std_and2, std_sadd, std_seq, std_sne, std_slt, std_sle, std_sgt, std_sge, std_slen, std_sget, std_scut, std_ofNat, std_toNat, std_nsub, std_nadd, std_lenOf, std_nz, std_nneg, std_inb, std_upto, std_slt63, std_grow, std_imp, std_impN, std_tr, std_tb, std_ti, std_ts, std_tn, std_tp, std_nmin, std_makes, std_room, std_zeros, std_nilq, std_notq, std_eqi, std_eqn, std_eqb, std_eqs, std_eqv, std_cat, std_lst, std_rset, std_rcopy, std_shift, std_eqr, std_strOf, std_bytesOf, std_isB, std_zOf, zOf_int, std_isI, isI_int, std_getL, std_nmul, std_sOf, sOf_str, std_isS, isS_str, std_fadd, std_fsub, std_fav, std_fsv, std_feq, std_fne, std_flt, std_fle, std_fgt, std_fge, std_fOf, std_fTo, std_fTv] at hc; omega
  refine ⟨⟨{i : Nat // i ≤ L.length ∧ L.take i = M.take i}, fun b i => [(5, .int .i64 (i.1 : Nat))], fun b i => [], fun i => L.length - i.1, true⟩, ⟨⟨0, by omega, rfl⟩, ?_⟩, ?_⟩
  · cbv
    subst hA
    simp [-List.getD_eq_getElem?_getD, std_add, std_sub, std_mul, std_quo, std_rem, std_band, std_bor, std_bxor, std_shl, std_shr, std_eq, std_ne, std_lt, std_le, std_conv, std_not, std_beq, std_bne, std_ite, std_want, std_and2, std_sadd, std_seq, std_sne, std_slt, std_sle, std_sgt, std_sge, std_slen, std_sget, std_scut, std_ofNat, std_toNat, std_nsub, std_nadd, std_lenOf, std_nz, std_nneg, std_inb, std_upto, std_slt63, std_grow, std_imp, std_impN, std_tr, std_tb, std_ti, std_ts, std_tn, std_tp, std_nmin, std_makes, std_room, std_zeros, std_nilq, std_notq, std_eqi, std_eqn, std_eqb, std_eqs, std_eqv, std_cat, std_lst, std_rset, std_rcopy, std_shift, std_eqr, std_strOf, std_bytesOf, std_isB, std_zOf, zOf_int, std_isI, isI_int, std_getL, std_nmul, std_sOf, sOf_str, std_isS, isS_str, std_fadd, std_fsub, std_fav, std_fsv, std_feq, std_fne, std_flt, std_fle, std_fgt, std_fge, std_fOf, std_fTo, std_fTv]
  · rintro ⟨i, hx⟩
    have hi := hx.1
    have hz := hx.2
    obtain ⟨e, he⟩ : ∃ e, e = L.getD i E0 := ⟨_, rfl⟩
    obtain ⟨g, hgg⟩ : ∃ g, g = M.getD i E0 := ⟨_, rfl⟩
    have h1 : L.getD i { s := 0, r := [], st := 0, pan := [], am := 0, code := [], tr := 0, ca := 0 } = e := he.symm
    have h2 : M.getD i { s := 0, r := [], st := 0, pan := [], am := 0, code := [], tr := 0, ca := 0 } = g := hgg.symm
    have hne : ¬e = g → ¬L = M := fun hn hLM => hn (by rw [he, hgg, hLM])
    rcases Nat.lt_or_ge i L.length with hlt | hge
    · cbv
      repeat' (first | with_reducible exact True.intro | with_reducible exact dr_ok hA (by kernel_rfl) | with_reducible refine And.intro ?_ ?_ | (intro hc; cbv))
      all_goals first
        | (fail_if_success (refine Exists.intro ?_ ?_)
           clear hz
           subst hA
           simp [-List.getD_eq_getElem?_getD, std_add, std_sub, std_mul, std_quo, std_rem, std_band, std_bor, std_bxor, std_shl, std_shr, std_eq, std_ne, std_lt, std_le, std_conv, std_not, std_beq, std_bne, std_ite, std_want, std_and2, std_sadd, std_seq, std_sne, std_slt, std_sle, std_sgt, std_sge, std_slen, std_sget, std_scut, std_ofNat, std_toNat, std_nsub, std_nadd, std_lenOf, std_nz, std_nneg, std_inb, std_upto, std_slt63, std_grow, std_imp, std_impN, std_tr, std_tb, std_ti, std_ts, std_tn, std_tp, std_nmin, std_makes, std_room, std_zeros, std_nilq, std_notq, std_eqi, std_eqn, std_eqb, std_eqs, std_eqv, std_cat, std_lst, std_rset, std_rcopy, std_shift, std_eqr, std_strOf, std_bytesOf, std_isB, std_zOf, zOf_int, std_isI, isI_int, std_getL, std_nmul, std_sOf, sOf_str, std_isS, isS_str, std_fadd, std_fsub, std_fav, std_fsv, std_feq, std_fne, std_flt, std_fle, std_fgt, std_fge, std_fOf, std_fTo, std_fTv, h1, h2] at *
           first
             | done
             | exact ⟨(show (0 : Int) ≤ ((i : Nat) : Int) by omega), (show ((i : Nat) : Int) < ((M.length : Nat) : Int) by omega)⟩
             | omega
             | (apply hne; intro h; subst h; simp at hc; done)
             | (intro hLM; refine hne ?_ hLM; intro h; subst h; simp at hc; done)
             | trace_state)
        | (obtain ⟨i', hi'⟩ : ∃ i', i' = i + 1 := ⟨_, rfl⟩
           have hk : e = g := by
             clear hz hne
             subst hA
             simp [-List.getD_eq_getElem?_getD, std_add, std_sub, std_mul, std_quo, std_rem, std_band, std_bor, std_bxor, std_shl, std_shr, std_eq, std_ne, std_lt, std_le, std_conv, std_not, std_beq, std_bne, std_ite, std_want, std_and2, std_sadd, std_seq, std_sne, std_slt, std_sle, std_sgt, std_sge, std_slen, std_sget, std_scut, std_ofNat, std_toNat, std_nsub, std_nadd, std_lenOf, std_nz, std_nneg, std_inb, std_upto, std_slt63, std_grow, std_imp, std_impN, std_tr, std_tb, std_ti, std_ts, std_tn, std_tp, std_nmin, std_makes, std_room, std_zeros, std_nilq, std_notq, std_eqi, std_eqn, std_eqb, std_eqs, std_eqv, std_cat, std_lst, std_rset, std_rcopy, std_shift, std_eqr, std_strOf, std_bytesOf, std_isB, std_zOf, zOf_int, std_isI, isI_int, std_getL, std_nmul, std_sOf, sOf_str, std_isS, isS_str, std_fadd, std_fsub, std_fav, std_fsv, std_feq, std_fne, std_flt, std_fle, std_fgt, std_fge, std_fOf, std_fTo, std_fTv, h1, h2] at hc
             exact Ent_ext hc.1 hc.2.1 hc.2.2.1 hc.2.2.2.1 hc.2.2.2.2.1 hc.2.2.2.2.2.1 hc.2.2.2.2.2.2.1 hc.2.2.2.2.2.2.2
           refine ⟨⟨i', by omega, ?_⟩, ?_, show L.length - i' < L.length - i by omega⟩
           · rw [hi', ← take_snoc (d := E0) hlt, ← take_snoc (d := E0) (show i < M.length by omega), hz, ← he, ← hgg, hk]
           · cbv
             subst hA
             simp [-List.getD_eq_getElem?_getD, std_add, std_sub, std_mul, std_quo, std_rem, std_band, std_bor, std_bxor, std_shl, std_shr, std_eq, std_ne, std_lt, std_le, std_conv, std_not, std_beq, std_bne, std_ite, std_want, std_and2, std_sadd, std_seq, std_sne, std_slt, std_sle, std_sgt, std_sge, std_slen, std_sget, std_scut, std_ofNat, std_toNat, std_nsub, std_nadd, std_lenOf, std_nz, std_nneg, std_inb, std_upto, std_slt63, std_grow, std_imp, std_impN, std_tr, std_tb, std_ti, std_ts, std_tn, std_tp, std_nmin, std_makes, std_room, std_zeros, std_nilq, std_notq, std_eqi, std_eqn, std_eqb, std_eqs, std_eqv, std_cat, std_lst, std_rset, std_rcopy, std_shift, std_eqr, std_strOf, std_bytesOf, std_isB, std_zOf, zOf_int, std_isI, isI_int, std_getL, std_nmul, std_sOf, sOf_str, std_isS, isS_str, std_fadd, std_fsub, std_fav, std_fsv, std_feq, std_fne, std_flt, std_fle, std_fgt, std_fge, std_fOf, std_fTo, std_fTv]
             exact w_succ' hi' (by omega))
        | trace_state
    · have hie : i = L.length := by omega
      rw [hie, List.take_length, hl, List.take_length] at hz
      cbv
      repeat' (first | with_reducible exact True.intro | with_reducible exact dr_ok hA (by kernel_rfl) | with_reducible refine And.intro ?_ ?_ | (intro hc; cbv))
      all_goals first
        | (exfalso; clear hz; subst hA; simp [-List.getD_eq_getElem?_getD, std_add, std_sub, std_mul, std_quo, std_rem, std_band, std_bor, std_bxor, std_shl, std_shr, std_eq, std_ne, std_lt, std_le, std_conv, std_not, std_beq, std_bne, std_ite, std_want, std_and2, std_sadd, std_seq, std_sne, std_slt, std_sle, std_sgt, std_sge, std_slen, std_sget, std_scut, std_ofNat, std_toNat, std_nsub, std_nadd, std_lenOf, std_nz, std_nneg, std_inb, std_upto, std_slt63, std_grow, std_imp, std_impN, std_tr, std_tb, std_ti, std_ts, std_tn, std_tp, std_nmin, std_makes, std_room, std_zeros, std_nilq, std_notq, std_eqi, std_eqn, std_eqb, std_eqs, std_eqv, std_cat, std_lst, std_rset, std_rcopy, std_shift, std_eqr, std_strOf, std_bytesOf, std_isB, std_zOf, zOf_int, std_isI, isI_int, std_getL, std_nmul, std_sOf, sOf_str, std_isS, isS_str, std_fadd, std_fsub, std_fav, std_fsv, std_feq, std_fne, std_flt, std_fle, std_fgt, std_fge, std_fOf, std_fTo, std_fTv] at hc; omega)
        | (exfalso; clear hz; subst hA; rename_i q; simp [-List.getD_eq_getElem?_getD, std_add, std_sub, std_mul, std_quo, std_rem, std_band, std_bor, std_bxor, std_shl, std_shr, std_eq, std_ne, std_lt, std_le, std_conv, std_not, std_beq, std_bne, std_ite, std_want, std_and2, std_sadd, std_seq, std_sne, std_slt, std_sle, std_sgt, std_sge, std_slen, std_sget, std_scut, std_ofNat, std_toNat, std_nsub, std_nadd, std_lenOf, std_nz, std_nneg, std_inb, std_upto, std_slt63, std_grow, std_imp, std_impN, std_tr, std_tb, std_ti, std_ts, std_tn, std_tp, std_nmin, std_makes, std_room, std_zeros, std_nilq, std_notq, std_eqi, std_eqn, std_eqb, std_eqs, std_eqv, std_cat, std_lst, std_rset, std_rcopy, std_shift, std_eqr, std_strOf, std_bytesOf, std_isB, std_zOf, zOf_int, std_isI, isI_int, std_getL, std_nmul, std_sOf, sOf_str, std_isS, isS_str, std_fadd, std_fsub, std_fav, std_fsv, std_feq, std_fne, std_flt, std_fle, std_fgt, std_fge, std_fOf, std_fTo, std_fTv] at q; omega)
        | (subst hA
           simp [-List.getD_eq_getElem?_getD, std_add, std_sub, std_mul, std_quo, std_rem, std_band, std_bor, std_bxor, std_shl, std_shr, std_eq, std_ne, std_lt, std_le, std_conv, std_not, std_beq, std_bne, std_ite, std_want, std_and2, std_sadd, std_seq, std_sne, std_slt, std_sle, std_sgt, std_sge, std_slen, std_sget, std_scut, std_ofNat, std_toNat, std_nsub, std_nadd, std_lenOf, std_nz, std_nneg, std_inb, std_upto, std_slt63, std_grow, std_imp, std_impN, std_tr, std_tb, std_ti, std_ts, std_tn, std_tp, std_nmin, std_makes, std_room, std_zeros, std_nilq, std_notq, std_eqi, std_eqn, std_eqb, std_eqs, std_eqv, std_cat, std_lst, std_rset, std_rcopy, std_shift, std_eqr, std_strOf, std_bytesOf, std_isB, std_zOf, zOf_int, std_isI, isI_int, std_getL, std_nmul, std_sOf, sOf_str, std_isS, isS_str, std_fadd, std_fsub, std_fav, std_fsv, std_feq, std_fne, std_flt, std_fle, std_fgt, std_fge, std_fOf, std_fTo, std_fTv, hz] at *)
        | trace_state
noncomputable def c_eSame : Ct := fun A args => match args with
  | [.slc n 8 f, .slc m 8 g] => some (some (A.tp fun _ => (isRow eE E0 8 n f ∧ isRow eE E0 8 m g) ∧ n ≤ 1000000), .bool (A.tb fun _ => decide (lstOf eE E0 8 n f = lstOf eE E0 8 m g)))
  | _ => none
noncomputable def gs9 : Ar → Pu := addC 6 c_sShort (addC 13 c_eSame (gs8))
theorem gs9_ok : PuOk Tryd.prog gl0 (gs9 std) := by
  refine addC_ok (addC_ok (gs8_ok) ⟨_, Tryd.func13, rfl, by decide⟩ ?_) ⟨_, Tryd.func6, rfl, by decide⟩ ?_
  · intro args p r h hp
    unfold c_eSame at h
    split at h <;> cases h
    exact good_sv (good_eSame _ _ (by rw [lstOf_length hp.1.1]; exact hp.2)) ⟨hp.1.1.sv, hp.1.2.sv, trivial⟩
  · intro args p r h hp
    unfold c_sShort at h
    split at h <;> cases h
    exact good_sv (good_sShort _ (by rw [lstOf_length hp.1]; exact hp.2)) ⟨hp.1.sv, trivial⟩
end Go.Vd

set_option linter.unusedVariables false
set_option linter.unusedSimpArgs false
set_option maxRecDepth 100000
set_option maxHeartbeats 8000000
namespace Go.Vd
theorem ordK_gt {s t : Int} {r q : List UInt8} (h : ¬ordK s r t q < 0) (hn : ¬(s = t ∧ r = q)) : ordK t q s r < 0 := by
  rw [ordK_lt_iff] at *
  rcases Int.lt_trichotomy s t with h1 | h1 | h1
  · exact absurd (.inl h1) h
  · subst h1
    rcases triS r q with ⟨h2, _⟩ | ⟨h2, _⟩ | ⟨h2, _⟩
    · exact absurd (.inr ⟨rfl, h2⟩) h
    · exact absurd ⟨rfl, h2⟩ hn
    · exact .inr ⟨rfl, h2⟩
  · exact .inl h1
theorem getD_mem {L : List Ent} {i : Nat} (h : i < L.length) : L.getD i E0 ∈ L := by
  rw [List.getD_eq_getElem?_getD, List.getElem?_eq_getElem h]; exact List.getElem_mem h
theorem getD_get {L : List Ent} {i : Nat} (h : i < L.length) : L[i] = L.getD i E0 := by simp [List.getD_eq_getElem?_getD, h]
theorem asc_pw {L : List Ent} : ascP L ↔ (∀ x ∈ L, eR x = true) ∧ L.Pairwise fun x y => ordE x y < 0 := by
  constructor
  · intro h
    refine ⟨fun x hx => ?_, ?_⟩
    · obtain ⟨i, hi, rfl⟩ := List.getElem_of_mem hx
      rw [getD_get hi]
      exact (h i hi).1
    · rw [List.pairwise_iff_getElem]
      intro i j hi hj hij
      rw [getD_get hi, getD_get hj]
      exact asc_mono h hij hj
  · rintro ⟨h1, h2⟩ j hj
    refine ⟨h1 _ (getD_mem hj), fun h0 => ?_⟩
    rw [List.pairwise_iff_getElem] at h2
    have := h2 (j - 1) j (by omega) hj (by omega)
    rw [getD_get (by omega), getD_get hj] at this
    exact this
structure Sp (A B : List Ent) (s : Int) (r : List UInt8) : Prop where
  ra : ∀ a ∈ A, eR a = true
  rb : ∀ b ∈ B, eR b = true
  pa : A.Pairwise fun x y => ordE x y < 0
  pb : B.Pairwise fun x y => ordE x y < 0
  la : ∀ a ∈ A, ordK a.s a.r s r < 0
  lb : ∀ b ∈ B, ordK s r b.s b.r < 0
theorem Sp.asc {A B : List Ent} {s : Int} {r : List UInt8} (h : Sp A B s r) {e : Ent} (he : eR e = true) (hs : e.s = s) (hr : e.r = r) : ascP (A ++ e :: B) := by
  rw [asc_pw]
  refine ⟨fun x hx => ?_, ?_⟩
  · rcases List.mem_append.1 hx with hx | hx
    · exact h.ra x hx
    · rcases List.mem_cons.1 hx with rfl | hx
      · exact he
      · exact h.rb x hx
  · rw [List.pairwise_append]
    have hcr : ∀ b ∈ B, ordE e b < 0 := fun b hb => by unfold ordE; rw [hs, hr]; exact h.lb b hb
    refine ⟨h.pa, List.pairwise_cons.2 ⟨hcr, h.pb⟩, fun a ha b hb => ?_⟩
    have h1 : ordE a e < 0 := by unfold ordE; rw [hs, hr]; exact h.la a ha
    rcases List.mem_cons.1 hb with rfl | hb
    · exact h1
    · exact ordK_trans h1 (hcr b hb)
theorem Sp.kA {A B : List Ent} {s : Int} {r : List UInt8} (h : Sp A B s r) {a : Ent} (ha : a ∈ A) : kE s r a = false := by
  cases hk : kE s r a
  · rfl
  · have := ltK_self hk
    unfold ltK at this
    have h2 := h.la a ha
    rw [decide_eq_true h2] at this
    cases this
theorem Sp.kB {A B : List Ent} {s : Int} {r : List UInt8} (h : Sp A B s r) {b : Ent} (hb : b ∈ B) : kE s r b = false := by
  cases hk : kE s r b
  · rfl
  · have h2 := h.lb b hb
    obtain ⟨h3, h4⟩ := kE_iff.1 hk
    rw [h3, h4, ordK_eq, if_pos ⟨rfl, rfl⟩] at h2
    exact absurd h2 (by decide)
theorem Sp.pos {A B : List Ent} {s : Int} {r : List UInt8} (h : Sp A B s r) {e : Ent} (hs : e.s = s) (hr : e.r = r) : pos (A ++ e :: B) s r = A.length := by
  unfold Vd.pos
  rw [List.takeWhile_append_of_pos (fun a ha => by unfold ltK; exact decide_eq_true (h.la a ha)), List.takeWhile_cons, if_neg (by rw [ltK_self (kE_iff.2 ⟨hs, hr⟩)]; simp), List.append_nil]
theorem find_none {A : List Ent} {s : Int} {r : List UInt8} (h : ∀ a ∈ A, kE s r a = false) : A.find? (kE s r) = none := by
  rw [List.find?_eq_none]
  intro x hx
  rw [h x hx]
  simp
theorem Sp.fnd {A B : List Ent} {s : Int} {r : List UInt8} (h : Sp A B s r) {e : Ent} (hs : e.s = s) (hr : e.r = r) : fnd (A ++ e :: B) s r = e ∧ has (A ++ e :: B) s r = true := by
  have hk : kE s r e = true := kE_iff.2 ⟨hs, hr⟩
  constructor
  · unfold Vd.fnd
    rw [List.find?_append, find_none fun a ha => h.kA ha, List.find?_cons, hk]
    rfl
  · unfold has
    simp [hk]
theorem Sp.oth {A B : List Ent} {s s' : Int} {r r' : List UInt8} {e : Ent} (hn : ¬(e.s = s' ∧ e.r = r')) : Vd.fnd (A ++ e :: B) s' r' = Vd.fnd (A ++ B) s' r' ∧ has (A ++ e :: B) s' r' = has (A ++ B) s' r' := by
  have hk : kE s' r' e = false := kE_no hn
  constructor
  · unfold Vd.fnd
    rw [List.find?_append, List.find?_append, List.find?_cons, hk]
  · unfold has
    simp [hk]
theorem has_no {L : List Ent} {s : Int} {r : List UInt8} (h : has L s r = false) {x : Ent} (hx : x ∈ L) : kE s r x = false := by
  unfold has at h
  rw [List.any_eq_false] at h
  exact Bool.eq_false_iff.2 (h x hx)
theorem Sp.of {L : List Ent} {s : Int} {r : List UInt8} (hasc : ascP L) (hn : has L s r = false) : Sp (L.take (Vd.pos L s r)) (L.drop (Vd.pos L s r)) s r := by
  have h2 := asc_pw.1 hasc
  have hpl := pos_le L s r
  refine ⟨fun a ha => h2.1 a (List.mem_of_mem_take ha), fun b hb => h2.1 b (List.mem_of_mem_drop hb), h2.2.sublist (List.take_sublist _ _), h2.2.sublist (List.drop_sublist _ _), fun a ha => ?_, fun b hb => ?_⟩
  · obtain ⟨i, hi, rfl⟩ := List.getElem_of_mem ha
    rw [List.length_take] at hi
    rw [List.getElem_take, getD_get (by omega)]
    have := pos_lt (L := L) (s := s) (r := r) (t := i) (by omega)
    unfold ltK at this
    exact of_decide_eq_true this
  · have hm := List.mem_of_mem_drop hb
    have hk := has_no hn hm
    obtain ⟨i, hi, rfl⟩ := List.getElem_of_mem hb
    rw [List.length_drop] at hi
    rw [List.getElem_drop] at hk ⊢
    rw [getD_get (by omega)] at hk ⊢
    have := pos_far hasc (s := s) (r := r) (t := Vd.pos L s r + i) (by omega) (by omega)
    unfold ltK at this
    exact ordK_gt (of_decide_eq_false this) fun h => by rw [kE_iff.2 h] at hk; cases hk
/-- What an entry's being put comes to. -/
theorem ins_spec {L : List Ent} {e : Ent} (h : insC L e = 0) : shR L = true ∧ eR e = true ∧ has L e.s e.r = false ∧ ¬L.length = 128 ∧ L.length ≤ 128 ∧ Sp (L.take (pos L e.s e.r)) (L.drop (pos L e.s e.r)) e.s e.r ∧ insL L e = L.take (pos L e.s e.r) ++ e :: L.drop (pos L e.s e.r) ∧ L = L.take (pos L e.s e.r) ++ L.drop (pos L e.s e.r) := by
  by_cases h1 : (shR L && eR e) = true
  · have h2 : shR L = true ∧ eR e = true := by simpa using h1
    have h3 := shR_asc h2.1
    have hb : (bif shR L then eR e else false) = true := by rw [h2.1, h2.2]; rfl
    cases h4 : has L e.s e.r
    · by_cases h5 : L.length = 128
      · rw [(insL_7 hb h4 h5).2] at h; cases h
      · have h6 := (insL_0 hb h4 h5).1
        refine ⟨h2.1, h2.2, rfl, h5, h3.2, Sp.of ((ascB_iff L).1 h3.1) h4, ?_, (List.take_append_drop _ _).symm⟩
        rw [h6, List.append_assoc]; rfl
    · rw [(insL_6 hb h4).2] at h; cases h
  · unfold insC at h
    rw [if_neg h1] at h
    cases h
theorem ins_same {L : List Ent} {e : Ent} (h : ¬insC L e = 0) : insL L e = L := by
  unfold insL insC at *
  split
  · rename_i h1
    rw [if_pos h1] at h
    split
    · rfl
    · rename_i h2
      rw [if_neg h2] at h
      split
      · rfl
      · rename_i h3
        rw [if_neg h3] at h
        exact absurd rfl h
  · rfl
/-- An entry in its place, and another one of its key. -/
theorem mid_spec {A B : List Ent} {e : Ent} (h : Sp A B e.s e.r) (he : eR e = true) (hl : A.length + B.length < 128) : shR (A ++ e :: B) = true ∧ has (A ++ e :: B) e.s e.r = true ∧ fnd (A ++ e :: B) e.s e.r = e ∧ pos (A ++ e :: B) e.s e.r = A.length := by
  refine ⟨shR_yes (by simp; omega) (h.asc he rfl rfl), (h.fnd rfl rfl).2, (h.fnd rfl rfl).1, h.pos rfl rfl⟩
theorem mid_getD (A B : List Ent) (e : Ent) : (A ++ e :: B).getD A.length E0 = e := by simp
theorem mid_set (A B : List Ent) (e f : Ent) : (A ++ e :: B).set A.length f = A ++ f :: B := by simp
theorem mid_rm (A B : List Ent) (e : Ent) : (A ++ e :: B).take A.length ++ (A ++ e :: B).drop (A.length + 1) = A ++ B := by
  rw [List.take_left', List.drop_append, List.drop_of_length_le (by omega), show A.length + 1 - A.length = 1 by omega]
  · rfl
  · rfl
theorem ins_again {M : List Ent} {e : Ent} (h1 : shR M = true) (h2 : eR e = true) (h3 : has M e.s e.r = true) : insC M e = 6 :=
  (insL_6 (by rw [h1, h2]; rfl) h3).2
end Go.Vd

set_option linter.unusedVariables false
set_option linter.unusedSimpArgs false
set_option maxRecDepth 100000
set_option maxHeartbeats 8000000
namespace Go.Vd
open Go.Proofs
abbrev Tbl := List (List Ent)
def eEs : En (List Ent) := fun A b => [rowS eE E0 8 A b]
theorem inj_eEs : Inj eEs 1 := fun x y h => by
  obtain ⟨s, h1, h2⟩ := h 0 (by omega)
  exact inj_eE.row (d := E0) h1 h2
theorem cell_eEs {n : Nat} {f : Nat → Nat → SV} {x : List Ent} (h : Reps eE E0 8 n f x) : ∀ j, j < 1 → Ceq (getAt [SV.slc n 8 f] j) (getAt (eEs std fun _ => x) j) := by
  intro j hj
  obtain rfl : j = 0 := by omega
  exact h.cell
theorem lstOf_T (T : Tbl) : lstOf eEs [] 1 T.length (rowF eEs [] std fun _ => T) = T := lstOf_lit inj_eEs T
theorem isRow_T (T : Tbl) : isRow eEs [] 1 T.length (rowF eEs [] std fun _ => T) := isRow_lit T
def enQ (e : Ent) : Prop := (0 ≤ e.s ∧ e.s < 4294967296) ∧ e.r.length ≤ 1000000 ∧ e.pan.length ≤ 100000 ∧ e.code.length ≤ 1000000
def enB (e : Ent) : Prop := 0 ≤ e.s ∧ e.s < 4294967296
theorem enB_0 : enB E0 := ⟨by decide, by decide⟩
theorem enQ_S {e : Ent} (h : enQ e) : enS e := ⟨h.2.2.1, h.2.2.2⟩
def tbQ (T : Tbl) : Prop := T.length ≤ 1000000 ∧ (∀ i, (T.getD i []).length ≤ 1000000) ∧ ∀ i j, enQ ((T.getD i []).getD j E0)
def cnt (T : Tbl) : Nat := (T.map List.length).sum
theorem cnt_snoc (T : Tbl) {i : Nat} (hi : i < T.length) : cnt (T.take (i + 1)) = cnt (T.take i) + (T.getD i []).length := by
  unfold cnt
  rw [← take_snoc (d := []) hi, List.map_append, List.sum_append]
  simp
theorem cnt_take (T : Tbl) (i : Nat) : cnt (T.take i) ≤ cnt T := by
  unfold cnt
  conv => rhs; rw [← List.take_append_drop i T]
  rw [List.map_append, List.sum_append]
  omega
def inSh (n i : Nat) (e : Ent) : Bool := decide (shardI e.s e.r (n : Int) = (i : Int))
def shOk (T : Tbl) (i : Nat) : Bool := shR (T.getD i []) && (T.getD i []).all (inSh T.length i)
def szR (m : Int) (n : Int) : Bool := (decide (0 ≤ m) && decide (m ≤ 128)) && (decide (1 ≤ n) && decide (n ≤ 16))
def tbR (m : Int) (T : Tbl) : Bool := szR m (T.length : Int) && ((List.range T.length).all (shOk T) && decide ((cnt T : Int) ≤ m))
theorem all_D {p : Ent → Bool} {L : List Ent} (h : ∀ k, k < L.length → p (L.getD k E0) = true) : L.all p = true := by
  rw [List.all_eq_true]
  intro x hx
  obtain ⟨k, hk, rfl⟩ := List.getElem_of_mem hx
  rw [getD_get hk]
  exact h k hk
theorem all_noD {p : Ent → Bool} {L : List Ent} {k : Nat} (hk : k < L.length) (h : p (L.getD k E0) = false) : L.all p = false := by
  rw [Bool.eq_false_iff]
  intro h2
  rw [List.all_eq_true] at h2
  rw [h2 _ (getD_mem hk)] at h
  cases h
theorem tbR_no {m : Int} {T : Tbl} {i : Nat} (hi : i < T.length) (h : shOk T i = false) : tbR m T = false := by
  have : (List.range T.length).all (shOk T) = false := by
    rw [Bool.eq_false_iff]
    intro h2
    rw [List.all_eq_true] at h2
    rw [h2 i (List.mem_range.2 hi)] at h
    cases h
  unfold tbR
  rw [this]
  simp
theorem tbR_all {T : Tbl} (h : ∀ j, j < T.length → shOk T j = true) : (List.range T.length).all (shOk T) = true := by
  rw [List.all_eq_true]
  intro j hj
  exact h j (List.mem_range.1 hj)
theorem cnt_le {m : Int} {T : Tbl} (h : szR m (T.length : Int) = true) (ha : (List.range T.length).all (shOk T) = true) : cnt T ≤ 2048 := by
  have h1 : T.length ≤ 16 := by simp [szR] at h; omega
  have h2 : ∀ i, i ≤ T.length → cnt (T.take i) ≤ 128 * i := fun i => by
    induction i with
    | zero => intro _; simp [cnt]
    | succ i ih =>
      intro hi
      rw [cnt_snoc T (by omega)]
      have := ih (by omega)
      rw [List.all_eq_true] at ha
      have h3 := ha i (List.mem_range.2 (by omega))
      unfold shOk shR at h3
      simp only [Bool.and_eq_true, decide_eq_true_eq] at h3
      omega
  have := h2 T.length (Nat.le_refl _)
  rw [List.take_length] at this
  omega
attribute [local irreducible] vc
theorem good_tSize (m n : Int) : GoodP Tryd.prog gl0 20 [.int .i64 m, .int .i64 n] (.bool (std.tb fun _ => szR m n)) := by
  refine fn_sound' (T := seatT) (G := noC) (X := noX) seatT_ok noC_ok noX_ok noI_ok mixed Tryd.func20 (.one) (fun A => [.int .i64 m, .int .i64 n]) (fun A => .bool (A.tb fun _ => szR m n)) fun A hA => ?_
  cbv
  repeat' (first | with_reducible exact True.intro | with_reducible exact dr_ok hA (by kernel_rfl) | with_reducible refine And.intro ?_ ?_ | (intro hc; cbv))
  all_goals (subst hA; simp [std_add, std_sub, std_mul, std_quo, std_rem, std_band, std_bor, std_bxor, std_shl, std_shr, std_eq, std_ne, std_lt, std_le, std_conv, std_not, std_beq, std_bne, std_ite, std_want, std_and2, std_sadd, std_seq, std_sne, std_slt, std_sle, std_sgt, std_sge, std_slen, std_sget, std_scut, std_ofNat, std_toNat, std_nsub, std_nadd, std_lenOf, std_nz, std_nneg, std_inb, std_upto, std_slt63, std_grow, std_imp, std_impN, std_tr, std_tb, std_ti, std_ts, std_tn, std_tp, std_nmin, std_makes, std_room, std_zeros, std_nilq, std_notq, std_eqi, std_eqn, std_eqb, std_eqs, std_eqv, std_cat, std_lst, std_rset, std_rcopy, std_shift, std_eqr, std_strOf, std_bytesOf, std_isB, std_zOf, zOf_int, std_isI, isI_int, std_getL, std_nmul, std_sOf, sOf_str, std_isS, isS_str, std_fadd, std_fsub, std_fav, std_fsv, std_feq, std_fne, std_flt, std_fle, std_fgt, std_fge, std_fOf, std_fTo, std_fTv, szR] at *)
  all_goals first
    | (rw [Bool.eq_iff_iff]; simp; omega)
    | trace_state
noncomputable def c_tSize : Ct := fun A args => match args with
  | [.int .i64 m, .int .i64 n] => some (none, .bool (A.tb fun _ => szR m n))
  | _ => none
theorem good_tCount (m : Int) (T : Tbl) (hT : T.length ≤ 1000000) (hc0 : cnt T ≤ 1000000) : GoodP Tryd.prog gl0 27 [.agg [.int .i64 m, rowS eEs [] 1 std fun _ => T]] (.int .i64 (std.ti fun _ => (cnt T : Int))) := by
  refine fn_sound' (T := seatT) (G := noC) (X := noX) seatT_ok noC_ok noX_ok noI_ok mixed Tryd.func27 (.one) (fun A => [.agg [.int .i64 m, rowS eEs [] 1 A fun _ => T]]) (fun A => .int .i64 (A.ti fun _ => (cnt T : Int))) fun A hA => ?_
  cbv
  repeat' (first | with_reducible exact True.intro | with_reducible exact dr_ok hA (by kernel_rfl) | with_reducible refine And.intro ?_ ?_ | (intro hc; cbv))
  refine ⟨⟨{p : Nat × Nat // p.1 ≤ T.length ∧ p.2 = cnt (T.take p.1)}, fun b p => [(3, .int .i64 (p.1.2 : Nat)), (9, .int .i64 (p.1.1 : Nat))], fun b p => [], fun p => T.length - p.1.1, true⟩, ⟨⟨(0, 0), by omega, rfl⟩, ?_⟩, ?_⟩
  · cbv
    subst hA
    simp [-List.getD_eq_getElem?_getD, std_add, std_sub, std_mul, std_quo, std_rem, std_band, std_bor, std_bxor, std_shl, std_shr, std_eq, std_ne, std_lt, std_le, std_conv, std_not, std_beq, std_bne, std_ite, std_want, std_and2, std_sadd, std_seq, std_sne, std_slt, std_sle, std_sgt, std_sge, std_slen, std_sget, std_scut, std_ofNat, std_toNat, std_nsub, std_nadd, std_lenOf, std_nz, std_nneg, std_inb, std_upto, std_slt63, std_grow, std_imp, std_impN, std_tr, std_tb, std_ti, std_ts, std_tn, std_tp, std_nmin, std_makes, std_room, std_zeros, std_nilq, std_notq, std_eqi, std_eqn, std_eqb, std_eqs, std_eqv, std_cat, std_lst, std_rset, std_rcopy, std_shift, std_eqr, std_strOf, std_bytesOf, std_isB, std_zOf, zOf_int, std_isI, isI_int, std_getL, std_nmul, std_sOf, sOf_str, std_isS, isS_str, std_fadd, std_fsub, std_fav, std_fsv, std_feq, std_fne, std_flt, std_fle, std_fgt, std_fge, std_fOf, std_fTo, std_fTv]
  · rintro ⟨⟨i, q⟩, hx⟩
    have hi : i ≤ T.length := hx.1
    have hq : q = cnt (T.take i) := hx.2
    rcases Nat.lt_or_ge i T.length with hlt | hge
    · have h1 := cnt_snoc T hlt
      have h2 := cnt_take T (i + 1)
      obtain ⟨i', hi'⟩ : ∃ i', i' = i + 1 := ⟨_, rfl⟩
      obtain ⟨q', hq'⟩ : ∃ q', q' = cnt (T.take i') := ⟨_, rfl⟩
      rw [← hi', ← hq, ← hq'] at h1
      rw [← hi', ← hq'] at h2
      cbv
      repeat' (first | with_reducible exact True.intro | with_reducible exact dr_ok hA (by kernel_rfl) | with_reducible refine And.intro ?_ ?_ | (intro hc; cbv))
      all_goals first
        | (fail_if_success (refine Exists.intro ?_ ?_)
           subst hA
           simp [-List.getD_eq_getElem?_getD, std_add, std_sub, std_mul, std_quo, std_rem, std_band, std_bor, std_bxor, std_shl, std_shr, std_eq, std_ne, std_lt, std_le, std_conv, std_not, std_beq, std_bne, std_ite, std_want, std_and2, std_sadd, std_seq, std_sne, std_slt, std_sle, std_sgt, std_sge, std_slen, std_sget, std_scut, std_ofNat, std_toNat, std_nsub, std_nadd, std_lenOf, std_nz, std_nneg, std_inb, std_upto, std_slt63, std_grow, std_imp, std_impN, std_tr, std_tb, std_ti, std_ts, std_tn, std_tp, std_nmin, std_makes, std_room, std_zeros, std_nilq, std_notq, std_eqi, std_eqn, std_eqb, std_eqs, std_eqv, std_cat, std_lst, std_rset, std_rcopy, std_shift, std_eqr, std_strOf, std_bytesOf, std_isB, std_zOf, zOf_int, std_isI, isI_int, std_getL, std_nmul, std_sOf, sOf_str, std_isS, isS_str, std_fadd, std_fsub, std_fav, std_fsv, std_feq, std_fne, std_flt, std_fle, std_fgt, std_fge, std_fOf, std_fTo, std_fTv] at *
           first
             | done
             | omega
             | trace_state)
        | (refine ⟨⟨(i', q'), by omega, hq'⟩, ?_, show T.length - i' < T.length - i by omega⟩
           cbv
           subst hA
           simp [-List.getD_eq_getElem?_getD, std_add, std_sub, std_mul, std_quo, std_rem, std_band, std_bor, std_bxor, std_shl, std_shr, std_eq, std_ne, std_lt, std_le, std_conv, std_not, std_beq, std_bne, std_ite, std_want, std_and2, std_sadd, std_seq, std_sne, std_slt, std_sle, std_sgt, std_sge, std_slen, std_sget, std_scut, std_ofNat, std_toNat, std_nsub, std_nadd, std_lenOf, std_nz, std_nneg, std_inb, std_upto, std_slt63, std_grow, std_imp, std_impN, std_tr, std_tb, std_ti, std_ts, std_tn, std_tp, std_nmin, std_makes, std_room, std_zeros, std_nilq, std_notq, std_eqi, std_eqn, std_eqb, std_eqs, std_eqv, std_cat, std_lst, std_rset, std_rcopy, std_shift, std_eqr, std_strOf, std_bytesOf, std_isB, std_zOf, zOf_int, std_isI, isI_int, std_getL, std_nmul, std_sOf, sOf_str, std_isS, isS_str, std_fadd, std_fsub, std_fav, std_fsv, std_feq, std_fne, std_flt, std_fle, std_fgt, std_fge, std_fOf, std_fTo, std_fTv]
           exact ⟨by rw [w64 (by omega)]; omega, w_succ' hi' (by omega)⟩)
        | trace_state
    · have hie : i = T.length := by omega
      rw [hie, List.take_length] at hq
      cbv
      repeat' (first | with_reducible exact True.intro | with_reducible exact dr_ok hA (by kernel_rfl) | with_reducible refine And.intro ?_ ?_ | (intro hc; cbv))
      all_goals first
        | (exfalso; subst hA; simp [-List.getD_eq_getElem?_getD, std_add, std_sub, std_mul, std_quo, std_rem, std_band, std_bor, std_bxor, std_shl, std_shr, std_eq, std_ne, std_lt, std_le, std_conv, std_not, std_beq, std_bne, std_ite, std_want, std_and2, std_sadd, std_seq, std_sne, std_slt, std_sle, std_sgt, std_sge, std_slen, std_sget, std_scut, std_ofNat, std_toNat, std_nsub, std_nadd, std_lenOf, std_nz, std_nneg, std_inb, std_upto, std_slt63, std_grow, std_imp, std_impN, std_tr, std_tb, std_ti, std_ts, std_tn, std_tp, std_nmin, std_makes, std_room, std_zeros, std_nilq, std_notq, std_eqi, std_eqn, std_eqb, std_eqs, std_eqv, std_cat, std_lst, std_rset, std_rcopy, std_shift, std_eqr, std_strOf, std_bytesOf, std_isB, std_zOf, zOf_int, std_isI, isI_int, std_getL, std_nmul, std_sOf, sOf_str, std_isS, isS_str, std_fadd, std_fsub, std_fav, std_fsv, std_feq, std_fne, std_flt, std_fle, std_fgt, std_fge, std_fOf, std_fTo, std_fTv] at hc; omega)
        | (exfalso; subst hA; rename_i q; simp [-List.getD_eq_getElem?_getD, std_add, std_sub, std_mul, std_quo, std_rem, std_band, std_bor, std_bxor, std_shl, std_shr, std_eq, std_ne, std_lt, std_le, std_conv, std_not, std_beq, std_bne, std_ite, std_want, std_and2, std_sadd, std_seq, std_sne, std_slt, std_sle, std_sgt, std_sge, std_slen, std_sget, std_scut, std_ofNat, std_toNat, std_nsub, std_nadd, std_lenOf, std_nz, std_nneg, std_inb, std_upto, std_slt63, std_grow, std_imp, std_impN, std_tr, std_tb, std_ti, std_ts, std_tn, std_tp, std_nmin, std_makes, std_room, std_zeros, std_nilq, std_notq, std_eqi, std_eqn, std_eqb, std_eqs, std_eqv, std_cat, std_lst, std_rset, std_rcopy, std_shift, std_eqr, std_strOf, std_bytesOf, std_isB, std_zOf, zOf_int, std_isI, isI_int, std_getL, std_nmul, std_sOf, sOf_str, std_isS, isS_str, std_fadd, std_fsub, std_fav, std_fsv, std_feq, std_fne, std_flt, std_fle, std_fgt, std_fge, std_fOf, std_fTo, std_fTv] at q; omega)
        | (subst hA
           simp only [std_add, std_sub, std_mul, std_quo, std_rem, std_band, std_bor, std_bxor, std_shl, std_shr, std_eq, std_ne, std_lt, std_le, std_conv, std_not, std_beq, std_bne, std_ite, std_want, std_and2, std_sadd, std_seq, std_sne, std_slt, std_sle, std_sgt, std_sge, std_slen, std_sget, std_scut, std_ofNat, std_toNat, std_nsub, std_nadd, std_lenOf, std_nz, std_nneg, std_inb, std_upto, std_slt63, std_grow, std_imp, std_impN, std_tr, std_tb, std_ti, std_ts, std_tn, std_tp, std_nmin, std_makes, std_room, std_zeros, std_nilq, std_notq, std_eqi, std_eqn, std_eqb, std_eqs, std_eqv, std_cat, std_lst, std_rset, std_rcopy, std_shift, std_eqr, std_strOf, std_bytesOf, std_isB, std_zOf, zOf_int, std_isI, isI_int, std_getL, std_nmul, std_sOf, sOf_str, std_isS, isS_str, std_fadd, std_fsub, std_fav, std_fsv, std_feq, std_fne, std_flt, std_fle, std_fgt, std_fge, std_fOf, std_fTo, std_fTv]
           exact congrArg Int.ofNat hq)
        | trace_state
noncomputable def c_tCount : Ct := fun A args => match args with
  | [.agg [.int .i64 m, .slc n 1 f]] => some (some (A.tp fun _ => isRow eEs [] 1 n f ∧ n ≤ 1000000 ∧ cnt (lstOf eEs [] 1 n f) ≤ 1000000), .int .i64 (A.ti fun _ => (cnt (lstOf eEs [] 1 n f) : Int)))
  | _ => none
noncomputable def gv1 : Ar → Pu := addC 20 c_tSize (addC 27 c_tCount (gs9))
theorem gv1_ok : PuOk Tryd.prog gl0 (gv1 std) := by
  refine addC_ok (addC_ok (gs9_ok) ⟨_, Tryd.func27, rfl, by decide⟩ ?_) ⟨_, Tryd.func20, rfl, by decide⟩ ?_
  · intro args p r h hp
    unfold c_tCount at h
    split at h <;> cases h
    exact good_sv (good_tCount _ _ (by rw [lstOf_length hp.1]; exact hp.2.1) hp.2.2) ⟨⟨_, rfl, rfl, hp.1.sv, trivial⟩, trivial⟩
  · intro args p r h hp
    unfold c_tSize at h
    split at h <;> cases h
    exact good_tSize _ _
def newM (m n : Int) : Int := if szR m n = true then m else 0
def newT (m n : Int) : Tbl := if szR m n = true then List.replicate n.toNat [] else []
def newC (m n : Int) : Int := if szR m n = true then 0 else 1
theorem new_y {m n : Int} (h : szR m n = true) : newM m n = m ∧ newT m n = List.replicate n.toNat [] ∧ newC m n = 0 := by unfold newM newT newC; rw [h]; simp
theorem new_n {m n : Int} (h : szR m n = false) : newM m n = 0 ∧ newT m n = [] ∧ newC m n = 1 := by unfold newM newT newC; rw [h]; simp
theorem good_tNew (m n : Int) : GoodP Tryd.prog gl0 7 [.int .i64 m, .int .i64 n] (.tup [.agg [.int .i64 (std.ti fun _ => newM m n), rowS eEs [] 1 std fun _ => newT m n], .int .i64 (std.ti fun _ => newC m n)]) := by
  refine fn_sound' (T := seatT) (G := gv1) (X := noX) seatT_ok gv1_ok noX_ok noI_ok mixed Tryd.func7 (.none) (fun A => [.int .i64 m, .int .i64 n]) (fun A => .tup [.agg [.int .i64 (A.ti fun _ => newM m n), rowS eEs [] 1 A fun _ => newT m n], .int .i64 (A.ti fun _ => newC m n)]) fun A hA => ?_
  cbv
  repeat' (first | with_reducible exact True.intro | with_reducible exact dr_ok hA (by kernel_rfl) | with_reducible refine And.intro ?_ ?_ | (intro hc; cbv))
  all_goals (subst hA; simp only [std_add, std_sub, std_mul, std_quo, std_rem, std_band, std_bor, std_bxor, std_shl, std_shr, std_eq, std_ne, std_lt, std_le, std_conv, std_not, std_beq, std_bne, std_ite, std_want, std_and2, std_sadd, std_seq, std_sne, std_slt, std_sle, std_sgt, std_sge, std_slen, std_sget, std_scut, std_ofNat, std_toNat, std_nsub, std_nadd, std_lenOf, std_nz, std_nneg, std_inb, std_upto, std_slt63, std_grow, std_imp, std_impN, std_tr, std_tb, std_ti, std_ts, std_tn, std_tp, std_nmin, std_makes, std_room, std_zeros, std_nilq, std_notq, std_eqi, std_eqn, std_eqb, std_eqs, std_eqv, std_cat, std_lst, std_rset, std_rcopy, std_shift, std_eqr, std_strOf, std_bytesOf, std_isB, std_zOf, zOf_int, std_isI, isI_int, std_getL, std_nmul, std_sOf, sOf_str, std_isS, isS_str, std_fadd, std_fsub, std_fav, std_fsv, std_feq, std_fne, std_flt, std_fle, std_fgt, std_fge, std_fOf, std_fTo, std_fTv] at *)
  all_goals first
    | (have h := new_n (nb_f hc)
       first
         | (rw [h.1]; done)
         | (rw [h.2.1]; rfl)
         | (rw [h.2.2]; done))
    | (have h0 := nb_t hc
       have h := new_y h0
       have h1 : 1 ≤ n ∧ n ≤ 16 := by simp [szR] at h0; omega
       first
         | (rw [h.1]; done)
         | (rw [h.2.1]; simp; done)
         | (rw [h.2.2]; done)
         | (simp; omega)
         | (refine eqr_of (Reps.fill (enc := eEs) (d := []) (x := []) (fun j hj => ?_) (fun i => rfl)) (by rw [h.2.1]; simp) h.2.1.symm
            obtain rfl : j = 0 := by omega
            exact .nils _ _))
    | trace_state
noncomputable def iV1 : Nat → Option Func := addI 37 Tryd.f37 (addI 54 Tryd.f54 (addI 34 Tryd.f34 noI))
theorem iV1_ok : InOk Tryd.prog iV1 := addI_ok (addI_ok (addI_ok noI_ok Tryd.func34 (by kernel_rfl)) Tryd.func54 (by kernel_rfl)) Tryd.func37 (by kernel_rfl)
theorem good_tRight (m : Int) (T : Tbl) (hQ : tbQ T) : GoodP Tryd.prog gl0 12 [.agg [.int .i64 m, rowS eEs [] 1 std fun _ => T]] (.bool (std.tb fun _ => tbR m T)) := by
  refine fn_sound' (T := seatT) (G := gv1) (X := noX) seatT_ok gv1_ok noX_ok iV1_ok mixed Tryd.func12 (.one) (fun A => [.agg [.int .i64 m, rowS eEs [] 1 A fun _ => T]]) (fun A => .bool (A.tb fun _ => tbR m T)) fun A hA => ?_
  cbv
  repeat' (first | with_reducible exact True.intro | with_reducible exact dr_ok hA (by kernel_rfl) | with_reducible refine And.intro ?_ ?_ | (intro hc; cbv))
  · subst hA
    simp only [std_add, std_sub, std_mul, std_quo, std_rem, std_band, std_bor, std_bxor, std_shl, std_shr, std_eq, std_ne, std_lt, std_le, std_conv, std_not, std_beq, std_bne, std_ite, std_want, std_and2, std_sadd, std_seq, std_sne, std_slt, std_sle, std_sgt, std_sge, std_slen, std_sget, std_scut, std_ofNat, std_toNat, std_nsub, std_nadd, std_lenOf, std_nz, std_nneg, std_inb, std_upto, std_slt63, std_grow, std_imp, std_impN, std_tr, std_tb, std_ti, std_ts, std_tn, std_tp, std_nmin, std_makes, std_room, std_zeros, std_nilq, std_notq, std_eqi, std_eqn, std_eqb, std_eqs, std_eqv, std_cat, std_lst, std_rset, std_rcopy, std_shift, std_eqr, std_strOf, std_bytesOf, std_isB, std_zOf, zOf_int, std_isI, isI_int, std_getL, std_nmul, std_sOf, sOf_str, std_isS, isS_str, std_fadd, std_fsub, std_fav, std_fsv, std_feq, std_fne, std_flt, std_fle, std_fgt, std_fge, std_fOf, std_fTo, std_fTv] at hc ⊢
    unfold tbR
    rw [nb_f hc]
    rfl
  have hsz : szR m (T.length : Int) = true := by
    rw [hA] at hc
    exact nb_t hc
  clear hc
  refine ⟨⟨{i : Nat // i ≤ T.length ∧ ∀ j, j < i → shOk T j = true}, fun b i => [(18, .int .i64 (i.1 : Nat))], fun b i => [], fun i => T.length - i.1, true⟩, ⟨⟨0, by omega, by simp⟩, ?_⟩, ?_⟩
  · cbv
    subst hA
    simp [-List.getD_eq_getElem?_getD, std_add, std_sub, std_mul, std_quo, std_rem, std_band, std_bor, std_bxor, std_shl, std_shr, std_eq, std_ne, std_lt, std_le, std_conv, std_not, std_beq, std_bne, std_ite, std_want, std_and2, std_sadd, std_seq, std_sne, std_slt, std_sle, std_sgt, std_sge, std_slen, std_sget, std_scut, std_ofNat, std_toNat, std_nsub, std_nadd, std_lenOf, std_nz, std_nneg, std_inb, std_upto, std_slt63, std_grow, std_imp, std_impN, std_tr, std_tb, std_ti, std_ts, std_tn, std_tp, std_nmin, std_makes, std_room, std_zeros, std_nilq, std_notq, std_eqi, std_eqn, std_eqb, std_eqs, std_eqv, std_cat, std_lst, std_rset, std_rcopy, std_shift, std_eqr, std_strOf, std_bytesOf, std_isB, std_zOf, zOf_int, std_isI, isI_int, std_getL, std_nmul, std_sOf, sOf_str, std_isS, isS_str, std_fadd, std_fsub, std_fav, std_fsv, std_feq, std_fne, std_flt, std_fle, std_fgt, std_fge, std_fOf, std_fTo, std_fTv]
  · rintro ⟨i, hx⟩
    have hi := hx.1
    have hz := hx.2
    have hT := hQ.1
    have hTi := hQ.2.1 i
    have hTe := hQ.2.2 i
    obtain ⟨L, hL⟩ : ∃ L, L = T.getD i [] := ⟨_, rfl⟩
    rw [← hL] at hTi hTe
    have hgL : T.getD i [] = L := hL.symm
    rcases Nat.lt_or_ge i T.length with hlt | hge
    · have hok : shR L = true → (∀ k, k < L.length → inSh T.length i (L.getD k E0) = true) → shOk T i = true := fun h1 h2 => by
        unfold shOk
        rw [hgL, h1, all_D h2]
        rfl
      have hno : ∀ b, shR L = b → b = false ∨ (∃ k, k < L.length ∧ inSh T.length i (L.getD k E0) = false) → tbR m T = false := fun b hb h => by
        subst hb
        refine tbR_no hlt ?_
        unfold shOk
        rw [hgL]
        rcases h with h | ⟨k, h1, h2⟩
        · rw [h]; rfl
        · rw [all_noD h1 h2, Bool.and_false]
      have hEn := fun k => enQ_S (hTe k)
      cbv
      repeat' (first | with_reducible exact True.intro | with_reducible exact dr_ok hA (by kernel_rfl) | with_reducible refine And.intro ?_ ?_ | (intro hc; cbv))
      all_goals first
        | (fail_if_success (refine Exists.intro ?_ ?_)
           clear hz
           subst hA
           simp only [std_add, std_sub, std_mul, std_quo, std_rem, std_band, std_bor, std_bxor, std_shl, std_shr, std_eq, std_ne, std_lt, std_le, std_conv, std_not, std_beq, std_bne, std_ite, std_want, std_and2, std_sadd, std_seq, std_sne, std_slt, std_sle, std_sgt, std_sge, std_slen, std_sget, std_scut, std_ofNat, std_toNat, std_nsub, std_nadd, std_lenOf, std_nz, std_nneg, std_inb, std_upto, std_slt63, std_grow, std_imp, std_impN, std_tr, std_tb, std_ti, std_ts, std_tn, std_tp, std_nmin, std_makes, std_room, std_zeros, std_nilq, std_notq, std_eqi, std_eqn, std_eqb, std_eqs, std_eqv, std_cat, std_lst, std_rset, std_rcopy, std_shift, std_eqr, std_strOf, std_bytesOf, std_isB, std_zOf, zOf_int, std_isI, isI_int, std_getL, std_nmul, std_sOf, sOf_str, std_isS, isS_str, std_fadd, std_fsub, std_fav, std_fsv, std_feq, std_fne, std_flt, std_fle, std_fgt, std_fge, std_fOf, std_fTo, std_fTv, Int.ofNat_eq_natCast, Int.toNat_natCast, hgL, isRow_V, lstOf_V] at *
           first
             | exact ⟨trivial, hTi, hEn⟩
             | exact hc
             | (constructor <;> omega)
             | (revert hc; cases shR L <;> simp; done)
             | (refine (hno false ?_ (.inl rfl)).symm; revert hc; cases shR L <;> simp; done))
        | (exfalso
           clear hz hok hno
           subst hA
           simp only [std_add, std_sub, std_mul, std_quo, std_rem, std_band, std_bor, std_bxor, std_shl, std_shr, std_eq, std_ne, std_lt, std_le, std_conv, std_not, std_beq, std_bne, std_ite, std_want, std_and2, std_sadd, std_seq, std_sne, std_slt, std_sle, std_sgt, std_sge, std_slen, std_sget, std_scut, std_ofNat, std_toNat, std_nsub, std_nadd, std_lenOf, std_nz, std_nneg, std_inb, std_upto, std_slt63, std_grow, std_imp, std_impN, std_tr, std_tb, std_ti, std_ts, std_tn, std_tp, std_nmin, std_makes, std_room, std_zeros, std_nilq, std_notq, std_eqi, std_eqn, std_eqb, std_eqs, std_eqv, std_cat, std_lst, std_rset, std_rcopy, std_shift, std_eqr, std_strOf, std_bytesOf, std_isB, std_zOf, zOf_int, std_isI, isI_int, std_getL, std_nmul, std_sOf, sOf_str, std_isS, isS_str, std_fadd, std_fsub, std_fav, std_fsv, std_feq, std_fne, std_flt, std_fle, std_fgt, std_fge, std_fOf, std_fTo, std_fTv, Int.ofNat_eq_natCast, Int.toNat_natCast, hgL, isRow_V, lstOf_V] at *
           rename_i h1
           revert h1 hc
           cases shR L <;> simp
           done)
        | (exfalso
           clear hz hok hno
           subst hA
           simp only [std_add, std_sub, std_mul, std_quo, std_rem, std_band, std_bor, std_bxor, std_shl, std_shr, std_eq, std_ne, std_lt, std_le, std_conv, std_not, std_beq, std_bne, std_ite, std_want, std_and2, std_sadd, std_seq, std_sne, std_slt, std_sle, std_sgt, std_sge, std_slen, std_sget, std_scut, std_ofNat, std_toNat, std_nsub, std_nadd, std_lenOf, std_nz, std_nneg, std_inb, std_upto, std_slt63, std_grow, std_imp, std_impN, std_tr, std_tb, std_ti, std_ts, std_tn, std_tp, std_nmin, std_makes, std_room, std_zeros, std_nilq, std_notq, std_eqi, std_eqn, std_eqb, std_eqs, std_eqv, std_cat, std_lst, std_rset, std_rcopy, std_shift, std_eqr, std_strOf, std_bytesOf, std_isB, std_zOf, zOf_int, std_isI, isI_int, std_getL, std_nmul, std_sOf, sOf_str, std_isS, isS_str, std_fadd, std_fsub, std_fav, std_fsv, std_feq, std_fne, std_flt, std_fle, std_fgt, std_fge, std_fOf, std_fTo, std_fTv, Int.ofNat_eq_natCast, Int.toNat_natCast, hgL, isRow_V, lstOf_V] at *
           have hq : decide ((i : Int) < (T.length : Int)) = false := by assumption
           have := of_decide_eq_false hq
           omega)
        | skip
      have hs : shR L = true := by
        clear hz hok hno
        subst hA
        simp only [std_add, std_sub, std_mul, std_quo, std_rem, std_band, std_bor, std_bxor, std_shl, std_shr, std_eq, std_ne, std_lt, std_le, std_conv, std_not, std_beq, std_bne, std_ite, std_want, std_and2, std_sadd, std_seq, std_sne, std_slt, std_sle, std_sgt, std_sge, std_slen, std_sget, std_scut, std_ofNat, std_toNat, std_nsub, std_nadd, std_lenOf, std_nz, std_nneg, std_inb, std_upto, std_slt63, std_grow, std_imp, std_impN, std_tr, std_tb, std_ti, std_ts, std_tn, std_tp, std_nmin, std_makes, std_room, std_zeros, std_nilq, std_notq, std_eqi, std_eqn, std_eqb, std_eqs, std_eqv, std_cat, std_lst, std_rset, std_rcopy, std_shift, std_eqr, std_strOf, std_bytesOf, std_isB, std_zOf, zOf_int, std_isI, isI_int, std_getL, std_nmul, std_sOf, sOf_str, std_isS, isS_str, std_fadd, std_fsub, std_fav, std_fsv, std_feq, std_fne, std_flt, std_fle, std_fgt, std_fge, std_fOf, std_fTo, std_fTv, Int.ofNat_eq_natCast, Int.toNat_natCast, hgL, isRow_V, lstOf_V] at *
        cases hs : shR L
        · rw [hs] at hc; cases hc
        · rfl
      refine ⟨⟨{j : Nat // j ≤ L.length ∧ ∀ k, k < j → inSh T.length i (L.getD k E0) = true}, fun b j => [(8, .int .i64 (j.1 : Nat))], fun b j => [], fun j => L.length - j.1, true⟩, ⟨⟨0, by omega, by simp⟩, ?_⟩, ?_⟩
      · cbv
        subst hA
        simp [-List.getD_eq_getElem?_getD, std_add, std_sub, std_mul, std_quo, std_rem, std_band, std_bor, std_bxor, std_shl, std_shr, std_eq, std_ne, std_lt, std_le, std_conv, std_not, std_beq, std_bne, std_ite, std_want, std_and2, std_sadd, std_seq, std_sne, std_slt, std_sle, std_sgt, std_sge, std_slen, std_sget, std_scut, std_ofNat, std_toNat, std_nsub, std_nadd, std_lenOf, std_nz, std_nneg, std_inb, std_upto, std_slt63, std_grow, std_imp, std_impN, std_tr, std_tb, std_ti, std_ts, std_tn, std_tp, std_nmin, std_makes, std_room, std_zeros, std_nilq, std_notq, std_eqi, std_eqn, std_eqb, std_eqs, std_eqv, std_cat, std_lst, std_rset, std_rcopy, std_shift, std_eqr, std_strOf, std_bytesOf, std_isB, std_zOf, zOf_int, std_isI, isI_int, std_getL, std_nmul, std_sOf, sOf_str, std_isS, isS_str, std_fadd, std_fsub, std_fav, std_fsv, std_feq, std_fne, std_flt, std_fle, std_fgt, std_fge, std_fOf, std_fTo, std_fTv, hgL]
      · rintro ⟨j, hy⟩
        have hj := hy.1
        have hyz := hy.2
        have hTej := hTe j
        obtain ⟨e, he⟩ : ∃ e, e = L.getD j E0 := ⟨_, rfl⟩
        have hge : L.getD j { s := 0, r := [], st := 0, pan := [], am := 0, code := [], tr := 0, ca := 0 } = e := he.symm
        rw [← he] at hTej
        have hno2 : shardI e.s e.r (T.length : Int) ≠ (i : Int) → j < L.length → tbR m T = false := fun h1 h2 => hno _ rfl (.inr ⟨j, h2, by
          rw [← he]
          unfold inSh
          exact decide_eq_false h1⟩)
        rcases Nat.lt_or_ge j L.length with hltj | hgej
        · cbv
          repeat' (first | with_reducible exact True.intro | with_reducible exact dr_ok hA (by kernel_rfl) | with_reducible refine And.intro ?_ ?_ | (intro hc; cbv))
          all_goals first
            | (fail_if_success (refine Exists.intro ?_ ?_)
               clear hz hyz hok hno
               subst hA
               simp only [std_add, std_sub, std_mul, std_quo, std_rem, std_band, std_bor, std_bxor, std_shl, std_shr, std_eq, std_ne, std_lt, std_le, std_conv, std_not, std_beq, std_bne, std_ite, std_want, std_and2, std_sadd, std_seq, std_sne, std_slt, std_sle, std_sgt, std_sge, std_slen, std_sget, std_scut, std_ofNat, std_toNat, std_nsub, std_nadd, std_lenOf, std_nz, std_nneg, std_inb, std_upto, std_slt63, std_grow, std_imp, std_impN, std_tr, std_tb, std_ti, std_ts, std_tn, std_tp, std_nmin, std_makes, std_room, std_zeros, std_nilq, std_notq, std_eqi, std_eqn, std_eqb, std_eqs, std_eqv, std_cat, std_lst, std_rset, std_rcopy, std_shift, std_eqr, std_strOf, std_bytesOf, std_isB, std_zOf, zOf_int, std_isI, isI_int, std_getL, std_nmul, std_sOf, sOf_str, std_isS, isS_str, std_fadd, std_fsub, std_fav, std_fsv, std_feq, std_fne, std_flt, std_fle, std_fgt, std_fge, std_fOf, std_fTo, std_fTv, Int.ofNat_eq_natCast, Int.toNat_natCast, hgL, hge, isRow_V, lstOf_V] at *
               first
                 | exact hTej.1
                 | exact ⟨Int.natCast_nonneg _, Int.ofNat_lt.2 (by assumption)⟩
                 | exact (hno2 (bne_iff_ne.1 (by assumption)) hltj).symm)
            | (exfalso
               clear hz hyz hok hno hno2
               subst hA
               simp only [std_add, std_sub, std_mul, std_quo, std_rem, std_band, std_bor, std_bxor, std_shl, std_shr, std_eq, std_ne, std_lt, std_le, std_conv, std_not, std_beq, std_bne, std_ite, std_want, std_and2, std_sadd, std_seq, std_sne, std_slt, std_sle, std_sgt, std_sge, std_slen, std_sget, std_scut, std_ofNat, std_toNat, std_nsub, std_nadd, std_lenOf, std_nz, std_nneg, std_inb, std_upto, std_slt63, std_grow, std_imp, std_impN, std_tr, std_tb, std_ti, std_ts, std_tn, std_tp, std_nmin, std_makes, std_room, std_zeros, std_nilq, std_notq, std_eqi, std_eqn, std_eqb, std_eqs, std_eqv, std_cat, std_lst, std_rset, std_rcopy, std_shift, std_eqr, std_strOf, std_bytesOf, std_isB, std_zOf, zOf_int, std_isI, isI_int, std_getL, std_nmul, std_sOf, sOf_str, std_isS, isS_str, std_fadd, std_fsub, std_fav, std_fsv, std_feq, std_fne, std_flt, std_fle, std_fgt, std_fge, std_fOf, std_fTo, std_fTv, Int.ofNat_eq_natCast, Int.toNat_natCast, hgL, hge, isRow_V, lstOf_V] at *
               revert hc
               rw [hs]
               simp
               done)
            | (obtain ⟨j', hj'⟩ : ∃ j', j' = j + 1 := ⟨_, rfl⟩
               have hst : inSh T.length i e = true := by
                 clear hz hyz hok hno hno2
                 subst hA
                 simp only [std_add, std_sub, std_mul, std_quo, std_rem, std_band, std_bor, std_bxor, std_shl, std_shr, std_eq, std_ne, std_lt, std_le, std_conv, std_not, std_beq, std_bne, std_ite, std_want, std_and2, std_sadd, std_seq, std_sne, std_slt, std_sle, std_sgt, std_sge, std_slen, std_sget, std_scut, std_ofNat, std_toNat, std_nsub, std_nadd, std_lenOf, std_nz, std_nneg, std_inb, std_upto, std_slt63, std_grow, std_imp, std_impN, std_tr, std_tb, std_ti, std_ts, std_tn, std_tp, std_nmin, std_makes, std_room, std_zeros, std_nilq, std_notq, std_eqi, std_eqn, std_eqb, std_eqs, std_eqv, std_cat, std_lst, std_rset, std_rcopy, std_shift, std_eqr, std_strOf, std_bytesOf, std_isB, std_zOf, zOf_int, std_isI, isI_int, std_getL, std_nmul, std_sOf, sOf_str, std_isS, isS_str, std_fadd, std_fsub, std_fav, std_fsv, std_feq, std_fne, std_flt, std_fle, std_fgt, std_fge, std_fOf, std_fTo, std_fTv, Int.ofNat_eq_natCast, Int.toNat_natCast, hgL, hge, isRow_V, lstOf_V] at *
                 unfold inSh
                 exact decide_eq_true (bne_eq_false_iff_eq.1 hc)
               refine ⟨⟨j', by omega, fun k hk => ?_⟩, ?_, show L.length - j' < L.length - j by omega⟩
               · rcases Nat.lt_or_ge k j with h | h
                 · exact hyz k h
                 · obtain rfl : k = j := by omega
                   rw [← he]; exact hst
               · cbv
                 subst hA
                 simp [-List.getD_eq_getElem?_getD, std_add, std_sub, std_mul, std_quo, std_rem, std_band, std_bor, std_bxor, std_shl, std_shr, std_eq, std_ne, std_lt, std_le, std_conv, std_not, std_beq, std_bne, std_ite, std_want, std_and2, std_sadd, std_seq, std_sne, std_slt, std_sle, std_sgt, std_sge, std_slen, std_sget, std_scut, std_ofNat, std_toNat, std_nsub, std_nadd, std_lenOf, std_nz, std_nneg, std_inb, std_upto, std_slt63, std_grow, std_imp, std_impN, std_tr, std_tb, std_ti, std_ts, std_tn, std_tp, std_nmin, std_makes, std_room, std_zeros, std_nilq, std_notq, std_eqi, std_eqn, std_eqb, std_eqs, std_eqv, std_cat, std_lst, std_rset, std_rcopy, std_shift, std_eqr, std_strOf, std_bytesOf, std_isB, std_zOf, zOf_int, std_isI, isI_int, std_getL, std_nmul, std_sOf, sOf_str, std_isS, isS_str, std_fadd, std_fsub, std_fav, std_fsv, std_feq, std_fne, std_flt, std_fle, std_fgt, std_fge, std_fOf, std_fTo, std_fTv]
                 exact w_succ' hj' (by omega))
            | (exfalso
               clear hz hyz hok hno hno2
               subst hA
               simp only [std_add, std_sub, std_mul, std_quo, std_rem, std_band, std_bor, std_bxor, std_shl, std_shr, std_eq, std_ne, std_lt, std_le, std_conv, std_not, std_beq, std_bne, std_ite, std_want, std_and2, std_sadd, std_seq, std_sne, std_slt, std_sle, std_sgt, std_sge, std_slen, std_sget, std_scut, std_ofNat, std_toNat, std_nsub, std_nadd, std_lenOf, std_nz, std_nneg, std_inb, std_upto, std_slt63, std_grow, std_imp, std_impN, std_tr, std_tb, std_ti, std_ts, std_tn, std_tp, std_nmin, std_makes, std_room, std_zeros, std_nilq, std_notq, std_eqi, std_eqn, std_eqb, std_eqs, std_eqv, std_cat, std_lst, std_rset, std_rcopy, std_shift, std_eqr, std_strOf, std_bytesOf, std_isB, std_zOf, zOf_int, std_isI, isI_int, std_getL, std_nmul, std_sOf, sOf_str, std_isS, isS_str, std_fadd, std_fsub, std_fav, std_fsv, std_feq, std_fne, std_flt, std_fle, std_fgt, std_fge, std_fOf, std_fTo, std_fTv, Int.ofNat_eq_natCast, Int.toNat_natCast, hgL, hge, isRow_V, lstOf_V] at *
               have hq : decide ((j : Int) < (L.length : Int)) = false := by assumption
               have := of_decide_eq_false hq
               omega)
            | trace_state
        · have hje : j = L.length := by omega
          cbv
          repeat' (first | with_reducible exact True.intro | with_reducible exact dr_ok hA (by kernel_rfl) | with_reducible refine And.intro ?_ ?_ | (intro hc; cbv))
          all_goals first
            | (exfalso
               clear hz hyz hok hno hno2
               subst hA
               simp only [std_add, std_sub, std_mul, std_quo, std_rem, std_band, std_bor, std_bxor, std_shl, std_shr, std_eq, std_ne, std_lt, std_le, std_conv, std_not, std_beq, std_bne, std_ite, std_want, std_and2, std_sadd, std_seq, std_sne, std_slt, std_sle, std_sgt, std_sge, std_slen, std_sget, std_scut, std_ofNat, std_toNat, std_nsub, std_nadd, std_lenOf, std_nz, std_nneg, std_inb, std_upto, std_slt63, std_grow, std_imp, std_impN, std_tr, std_tb, std_ti, std_ts, std_tn, std_tp, std_nmin, std_makes, std_room, std_zeros, std_nilq, std_notq, std_eqi, std_eqn, std_eqb, std_eqs, std_eqv, std_cat, std_lst, std_rset, std_rcopy, std_shift, std_eqr, std_strOf, std_bytesOf, std_isB, std_zOf, zOf_int, std_isI, isI_int, std_getL, std_nmul, std_sOf, sOf_str, std_isS, isS_str, std_fadd, std_fsub, std_fav, std_fsv, std_feq, std_fne, std_flt, std_fle, std_fgt, std_fge, std_fOf, std_fTo, std_fTv, Int.ofNat_eq_natCast, Int.toNat_natCast, hgL, hge, isRow_V, lstOf_V] at *
               have hq : decide ((j : Int) < (L.length : Int)) = true := by assumption
               have := of_decide_eq_true hq
               omega)
            | (exfalso
               clear hz hyz hok hno hno2
               subst hA
               simp only [std_add, std_sub, std_mul, std_quo, std_rem, std_band, std_bor, std_bxor, std_shl, std_shr, std_eq, std_ne, std_lt, std_le, std_conv, std_not, std_beq, std_bne, std_ite, std_want, std_and2, std_sadd, std_seq, std_sne, std_slt, std_sle, std_sgt, std_sge, std_slen, std_sget, std_scut, std_ofNat, std_toNat, std_nsub, std_nadd, std_lenOf, std_nz, std_nneg, std_inb, std_upto, std_slt63, std_grow, std_imp, std_impN, std_tr, std_tb, std_ti, std_ts, std_tn, std_tp, std_nmin, std_makes, std_room, std_zeros, std_nilq, std_notq, std_eqi, std_eqn, std_eqb, std_eqs, std_eqv, std_cat, std_lst, std_rset, std_rcopy, std_shift, std_eqr, std_strOf, std_bytesOf, std_isB, std_zOf, zOf_int, std_isI, isI_int, std_getL, std_nmul, std_sOf, sOf_str, std_isS, isS_str, std_fadd, std_fsub, std_fav, std_fsv, std_feq, std_fne, std_flt, std_fle, std_fgt, std_fge, std_fOf, std_fTo, std_fTv, Int.ofNat_eq_natCast, Int.toNat_natCast, hgL, hge, isRow_V, lstOf_V] at *
               first
                 | (revert hc; rw [hs]; simp; done)
                 | (rename_i q; simp at q; omega)
                 | (simp at hc; omega))
            | (obtain ⟨i', hi'⟩ : ∃ i', i' = i + 1 := ⟨_, rfl⟩
               have hst : shOk T i = true := hok hs fun k hk => hyz k (by omega)
               refine ⟨⟨i', by omega, fun k hk => ?_⟩, ?_, show T.length - i' < T.length - i by omega⟩
               · rcases Nat.lt_or_ge k i with h | h
                 · exact hz k h
                 · obtain rfl : k = i := by omega
                   exact hst
               · cbv
                 subst hA
                 simp [-List.getD_eq_getElem?_getD, std_add, std_sub, std_mul, std_quo, std_rem, std_band, std_bor, std_bxor, std_shl, std_shr, std_eq, std_ne, std_lt, std_le, std_conv, std_not, std_beq, std_bne, std_ite, std_want, std_and2, std_sadd, std_seq, std_sne, std_slt, std_sle, std_sgt, std_sge, std_slen, std_sget, std_scut, std_ofNat, std_toNat, std_nsub, std_nadd, std_lenOf, std_nz, std_nneg, std_inb, std_upto, std_slt63, std_grow, std_imp, std_impN, std_tr, std_tb, std_ti, std_ts, std_tn, std_tp, std_nmin, std_makes, std_room, std_zeros, std_nilq, std_notq, std_eqi, std_eqn, std_eqb, std_eqs, std_eqv, std_cat, std_lst, std_rset, std_rcopy, std_shift, std_eqr, std_strOf, std_bytesOf, std_isB, std_zOf, zOf_int, std_isI, isI_int, std_getL, std_nmul, std_sOf, sOf_str, std_isS, isS_str, std_fadd, std_fsub, std_fav, std_fsv, std_feq, std_fne, std_flt, std_fle, std_fgt, std_fge, std_fOf, std_fTo, std_fTv]
                 exact w_succ' hi' (by omega))
            | trace_state
    · have hie : i = T.length := by omega
      have hall : (List.range T.length).all (shOk T) = true := tbR_all fun j hj => hz j (by omega)
      have hcn : cnt T ≤ 1000000 := by
        have := cnt_le hsz hall
        omega
      cbv
      repeat' (first | with_reducible exact True.intro | with_reducible exact dr_ok hA (by kernel_rfl) | with_reducible refine And.intro ?_ ?_ | (intro hc; cbv))
      all_goals first
        | (exfalso
           clear hz
           subst hA
           simp only [std_add, std_sub, std_mul, std_quo, std_rem, std_band, std_bor, std_bxor, std_shl, std_shr, std_eq, std_ne, std_lt, std_le, std_conv, std_not, std_beq, std_bne, std_ite, std_want, std_and2, std_sadd, std_seq, std_sne, std_slt, std_sle, std_sgt, std_sge, std_slen, std_sget, std_scut, std_ofNat, std_toNat, std_nsub, std_nadd, std_lenOf, std_nz, std_nneg, std_inb, std_upto, std_slt63, std_grow, std_imp, std_impN, std_tr, std_tb, std_ti, std_ts, std_tn, std_tp, std_nmin, std_makes, std_room, std_zeros, std_nilq, std_notq, std_eqi, std_eqn, std_eqb, std_eqs, std_eqv, std_cat, std_lst, std_rset, std_rcopy, std_shift, std_eqr, std_strOf, std_bytesOf, std_isB, std_zOf, zOf_int, std_isI, isI_int, std_getL, std_nmul, std_sOf, sOf_str, std_isS, isS_str, std_fadd, std_fsub, std_fav, std_fsv, std_feq, std_fne, std_flt, std_fle, std_fgt, std_fge, std_fOf, std_fTo, std_fTv, Int.ofNat_eq_natCast, Int.toNat_natCast] at *
           have hq : decide ((i : Int) < (T.length : Int)) = true := by assumption
           have := of_decide_eq_true hq
           omega)
        | (exfalso; clear hz; subst hA; simp [-List.getD_eq_getElem?_getD, std_add, std_sub, std_mul, std_quo, std_rem, std_band, std_bor, std_bxor, std_shl, std_shr, std_eq, std_ne, std_lt, std_le, std_conv, std_not, std_beq, std_bne, std_ite, std_want, std_and2, std_sadd, std_seq, std_sne, std_slt, std_sle, std_sgt, std_sge, std_slen, std_sget, std_scut, std_ofNat, std_toNat, std_nsub, std_nadd, std_lenOf, std_nz, std_nneg, std_inb, std_upto, std_slt63, std_grow, std_imp, std_impN, std_tr, std_tb, std_ti, std_ts, std_tn, std_tp, std_nmin, std_makes, std_room, std_zeros, std_nilq, std_notq, std_eqi, std_eqn, std_eqb, std_eqs, std_eqv, std_cat, std_lst, std_rset, std_rcopy, std_shift, std_eqr, std_strOf, std_bytesOf, std_isB, std_zOf, zOf_int, std_isI, isI_int, std_getL, std_nmul, std_sOf, sOf_str, std_isS, isS_str, std_fadd, std_fsub, std_fav, std_fsv, std_feq, std_fne, std_flt, std_fle, std_fgt, std_fge, std_fOf, std_fTo, std_fTv] at hc; omega)
        | (exfalso; clear hz; subst hA; rename_i q; simp [-List.getD_eq_getElem?_getD, std_add, std_sub, std_mul, std_quo, std_rem, std_band, std_bor, std_bxor, std_shl, std_shr, std_eq, std_ne, std_lt, std_le, std_conv, std_not, std_beq, std_bne, std_ite, std_want, std_and2, std_sadd, std_seq, std_sne, std_slt, std_sle, std_sgt, std_sge, std_slen, std_sget, std_scut, std_ofNat, std_toNat, std_nsub, std_nadd, std_lenOf, std_nz, std_nneg, std_inb, std_upto, std_slt63, std_grow, std_imp, std_impN, std_tr, std_tb, std_ti, std_ts, std_tn, std_tp, std_nmin, std_makes, std_room, std_zeros, std_nilq, std_notq, std_eqi, std_eqn, std_eqb, std_eqs, std_eqv, std_cat, std_lst, std_rset, std_rcopy, std_shift, std_eqr, std_strOf, std_bytesOf, std_isB, std_zOf, zOf_int, std_isI, isI_int, std_getL, std_nmul, std_sOf, sOf_str, std_isS, isS_str, std_fadd, std_fsub, std_fav, std_fsv, std_feq, std_fne, std_flt, std_fle, std_fgt, std_fge, std_fOf, std_fTo, std_fTv] at q; omega)
        | (clear hz
           subst hA
           simp only [std_add, std_sub, std_mul, std_quo, std_rem, std_band, std_bor, std_bxor, std_shl, std_shr, std_eq, std_ne, std_lt, std_le, std_conv, std_not, std_beq, std_bne, std_ite, std_want, std_and2, std_sadd, std_seq, std_sne, std_slt, std_sle, std_sgt, std_sge, std_slen, std_sget, std_scut, std_ofNat, std_toNat, std_nsub, std_nadd, std_lenOf, std_nz, std_nneg, std_inb, std_upto, std_slt63, std_grow, std_imp, std_impN, std_tr, std_tb, std_ti, std_ts, std_tn, std_tp, std_nmin, std_makes, std_room, std_zeros, std_nilq, std_notq, std_eqi, std_eqn, std_eqb, std_eqs, std_eqv, std_cat, std_lst, std_rset, std_rcopy, std_shift, std_eqr, std_strOf, std_bytesOf, std_isB, std_zOf, zOf_int, std_isI, isI_int, std_getL, std_nmul, std_sOf, sOf_str, std_isS, isS_str, std_fadd, std_fsub, std_fav, std_fsv, std_feq, std_fne, std_flt, std_fle, std_fgt, std_fge, std_fOf, std_fTo, std_fTv, Int.ofNat_eq_natCast, Int.toNat_natCast, lstOf_T, isRow_T] at *
           first
             | exact ⟨trivial, hT, hcn⟩
             | (unfold tbR; rw [hsz, hall]; rfl))
        | trace_state
noncomputable def c_tRight : Ct := fun A args => match args with
  | [.agg [.int .i64 m, .slc n 1 f]] => some (some (A.tp fun _ => isRow eEs [] 1 n f ∧ tbQ (lstOf eEs [] 1 n f)), .bool (A.tb fun _ => tbR m (lstOf eEs [] 1 n f)))
  | _ => none
noncomputable def c_tNew : Ct := fun A args => match args with
  | [.int .i64 m, .int .i64 n] => some (none, .tup [.agg [.int .i64 (A.ti fun _ => newM m n), rowS eEs [] 1 A fun _ => newT m n], .int .i64 (A.ti fun _ => newC m n)])
  | _ => none
noncomputable def gv2 : Ar → Pu := addC 12 c_tRight (addC 7 c_tNew (gv1))
theorem gv2_ok : PuOk Tryd.prog gl0 (gv2 std) := by
  refine addC_ok (addC_ok (gv1_ok) ⟨_, Tryd.func7, rfl, by decide⟩ ?_) ⟨_, Tryd.func12, rfl, by decide⟩ ?_
  · intro args p r h hp
    unfold c_tNew at h
    split at h <;> cases h
    exact good_tNew _ _
  · intro args p r h hp
    unfold c_tRight at h
    split at h <;> cases h
    exact good_sv (good_tRight _ _ hp.2) ⟨⟨_, rfl, rfl, hp.1.sv, trivial⟩, trivial⟩
end Go.Vd

set_option linter.unusedVariables false
set_option linter.unusedSimpArgs false
set_option maxRecDepth 100000
set_option maxHeartbeats 4000000
namespace Go.Proofs
open Go.RowKit Go.Lib Go.Vd Go.Sort
theorem nan32_w (a : Int) (w : World) : Calls Tryd.prog 66 #[.int .u32 a] w fun e w' => e = .returned (.bool false) ∧ w' = w := by
  go_enter Tryd.func66, Tryd.ntmps66
  go_wp2
  go_ret
  exact ⟨rfl, rfl⟩
theorem nanS_w (a : ByteArray) (w : World) : Calls Tryd.prog 67 #[.string a] w fun e w' => e = .returned (.bool false) ∧ w' = w := by
  go_enter Tryd.func67, Tryd.ntmps67
  go_wp2
  go_ret
  exact ⟨rfl, rfl⟩
theorem cmp32_w (a b : Int) (w : World) : Calls Tryd.prog 43 #[.int .u32 a, .int .u32 b] w fun e w' => e = .returned (.int .i64 (ordI a b)) ∧ w' = w := by
  by_cases h1 : a < b
  · go_enter Tryd.func43, Tryd.ntmps43
    go_wp2_with (go_at_call 66; refine (nan32_w _ _).mono ?_; rintro e w' ⟨rfl, rfl⟩)
    go_ret
    exact ⟨by rw [show ordI a b = -1 by unfold ordI; rw [if_pos h1]]; rfl, rfl⟩
  · by_cases h2 : b < a
    · go_enter Tryd.func43, Tryd.ntmps43
      go_wp2_with (go_at_call 66; refine (nan32_w _ _).mono ?_; rintro e w' ⟨rfl, rfl⟩)
      go_ret
      exact ⟨by rw [show ordI a b = 1 by unfold ordI; rw [if_neg (by omega), if_pos h2]]; rfl, rfl⟩
    · go_enter Tryd.func43, Tryd.ntmps43
      go_wp2_with (go_at_call 66; refine (nan32_w _ _).mono ?_; rintro e w' ⟨rfl, rfl⟩)
      go_ret
      exact ⟨by rw [show ordI a b = 0 by unfold ordI; rw [if_neg (by omega), if_neg (by omega)]]; rfl, rfl⟩
theorem cmpS_w (a b : ByteArray) (w : World) : Calls Tryd.prog 44 #[.string a, .string b] w fun e w' => e = .returned (.int .i64 (ordS a.data.toList b.data.toList)) ∧ w' = w := by
  have e1 : Op.bytesLess a.toList b.toList = decide (a.data.toList < b.data.toList) := by rw [ByteArray.toList_eq, ByteArray.toList_eq]; exact bytesLess_eq _ _
  have e2 : Op.bytesLess b.toList a.toList = decide (b.data.toList < a.data.toList) := by rw [ByteArray.toList_eq, ByteArray.toList_eq]; exact bytesLess_eq _ _
  have e3 : (a.toList == b.toList) = decide (a.data.toList = b.data.toList) := by
    rw [ByteArray.toList_eq, ByteArray.toList_eq, Bool.eq_iff_iff]
    simp only [beq_iff_eq, decide_eq_true_eq]
  have hg : ∀ W, (binOp BinOp.gtr 9 (.string a) (.string b)).run Tryd.prog W = .ok (.bool (!(Op.bytesLess a.toList b.toList || (a.toList == b.toList)))) W := fun W => by simp [go_sem, binOp, Op.stringOp]
  rcases triS a.data.toList b.data.toList with ⟨h1, h2, h3⟩ | ⟨h1, h3⟩ | ⟨h1, h2, h3⟩
  · rw [decide_eq_true h1] at e1
    rw [h3]
    go_enter Tryd.func44, Tryd.ntmps44
    go_wp2_with (go_at_call 67; refine (nanS_w _ _).mono ?_; rintro e w' ⟨rfl, rfl⟩)
    all_goals try (rename_i hx; exfalso; rw [e1] at hx; exact Bool.noConfusion hx)
    go_ret
    exact ⟨rfl, rfl⟩
  · have e4 : Op.bytesLess a.toList b.toList = false := by rw [e1, h1]; exact decide_eq_false (List.lt_irrefl _)
    have e5 : (a.toList == b.toList) = true := by rw [e3]; exact decide_eq_true h1
    rw [e4, e5] at hg
    rw [h3]
    clear e1 e3 h1 h3
    go_enter Tryd.func44, Tryd.ntmps44
    go_wp2_with (go_at_call 67; refine (nanS_w _ _).mono ?_; rintro e w' ⟨rfl, rfl⟩)
    go_ret
    exact ⟨rfl, rfl⟩
  · have e4 : Op.bytesLess a.toList b.toList = false := by rw [e1]; exact decide_eq_false (List.lt_asymm h1)
    have e5 : (a.toList == b.toList) = false := by rw [e3]; exact decide_eq_false h2
    rw [e4, e5] at hg
    rw [h3]
    clear e1 e3 h1 h3
    go_enter Tryd.func44, Tryd.ntmps44
    go_wp2_with (go_at_call 67; refine (nanS_w _ _).mono ?_; rintro e w' ⟨rfl, rfl⟩)
    go_ret
    exact ⟨rfl, rfl⟩
theorem cOr_w (x y : Int) (g : Nat) (W : World) (h0 : W.cell? ⟨g, 0, none⟩ = some (.int .i64 x)) (h1 : W.cell? ⟨g, 1, none⟩ = some (.int .i64 y)) :
    Calls Tryd.prog 42 #[.slice (some ⟨g, 0, none⟩) 2 2] W fun e w' => e = .returned (.int .i64 (orL [x, y])) ∧ w' = W := by
  by_cases hx : x = 0
  · subst hx
    by_cases hy : y = 0
    · subst hy
      rw [show orL [0, 0] = 0 from rfl]
      go_enter Tryd.func42, Tryd.ntmps42
      go_wp2
      refine wp_loop_rounds 3 ?_
      rw [rounds_succ]
      go_wp2
      try rw [rounds_succ]
      go_wp2
      try rw [rounds_succ]
      go_wp2
      go_ret
      exact ⟨rfl, rfl⟩
    · rw [show orL [0, y] = y by simp [orL, hy]]
      go_enter Tryd.func42, Tryd.ntmps42
      go_wp2
      refine wp_loop_rounds 2 ?_
      rw [rounds_succ]
      go_wp2
      try rw [rounds_succ]
      go_wp2
      go_ret
      exact ⟨rfl, rfl⟩
  · rw [show orL [x, y] = x by simp [orL, hx]]
    go_enter Tryd.func42, Tryd.ntmps42
    go_wp2
    refine wp_loop_rounds 1 ?_
    rw [rounds_succ]
    go_wp2
    go_ret
    exact ⟨rfl, rfl⟩
theorem grown3 (W : World) (A B C : Obj) : ((W.alloc A).alloc B).drew.alloc C = grow (W.drewN 1) #[A, B, C] := by
  simp only [World.alloc, World.drew, World.drewN, grow, World.mk.injEq, and_true, true_and]
  first | done | (apply Array.ext'; simp)
theorem grown2 (W : World) (A B : Obj) (n : Nat) (os : Array Obj) : grow (((W.alloc A).alloc B).drewN n) os = grow (W.drewN n) (#[A, B] ++ os) := by
  simp only [World.alloc, World.drew, World.drewN, grow, World.mk.injEq, and_true, true_and]
  first | done | (apply Array.ext'; simp)
theorem kOrder_w (s t : Int) (r q : ByteArray) (W : World) : Calls Tryd.prog 24 #[.agg #[.int .u32 s, .string r], .agg #[.int .u32 t, .string q]] W fun e w' => e = .returned (.int .i64 (ordK s r.data.toList t q.data.toList)) ∧ ∃ n os', w' = grow (W.drewN n) os' := by
  have hp := ordK_or s r.data.toList t q.data.toList
  generalize hres : ordK s r.data.toList t q.data.toList = res at hp ⊢
  go_enter Tryd.func24, Tryd.ntmps24
  go_wp2
  have c0 : ((W.alloc (Obj.cells #[Value.int IntKind.u32 s, Value.string r] 34)).alloc (Obj.cells #[Value.int IntKind.u32 t, Value.string q] 34)).cell? ⟨W.heap.size, 0, none⟩ = some (.int .u32 s) := by simp
  have c1 : ((W.alloc (Obj.cells #[Value.int IntKind.u32 s, Value.string r] 34)).alloc (Obj.cells #[Value.int IntKind.u32 t, Value.string q] 34)).cell? ⟨W.heap.size, 1, none⟩ = some (.string r) := by simp
  have c2 : ((W.alloc (Obj.cells #[Value.int IntKind.u32 s, Value.string r] 34)).alloc (Obj.cells #[Value.int IntKind.u32 t, Value.string q] 34)).cell? ⟨W.heap.size + 1, 0, none⟩ = some (.int .u32 t) := by simp
  have c3 : ((W.alloc (Obj.cells #[Value.int IntKind.u32 s, Value.string r] 34)).alloc (Obj.cells #[Value.int IntKind.u32 t, Value.string q] 34)).cell? ⟨W.heap.size + 1, 1, none⟩ = some (.string q) := by simp
  generalize hW2 : ((W.alloc (Obj.cells #[Value.int IntKind.u32 s, Value.string r] 34)).alloc (Obj.cells #[Value.int IntKind.u32 t, Value.string q] 34)) = W2 at c0 c1 c2 c3 ⊢
  go_still_tail 10, (by kernel_rfl)
  still_call (cmp32_w _ _ _)
  repeat still_step
  still_call (cmpS_w _ _ _)
  refine wpStill_nil ?_
  change wpList _ _ _ _ _ W2.drew
  have hor := fun W h0 h1 => cOr_w (ordI s t) (ordS r.data.toList q.data.toList) W2.heap.size W h0 h1
  rw [hp] at hor
  go_wp2_with (go_at_call 42; refine (hor _ (by simp) (by simp)).mono ?_; rintro e w' ⟨rfl, rfl⟩)
  go_ret
  refine ⟨rfl, ?_⟩
  subst hW2
  exact ⟨1, _, grown3 ..⟩
/-- A text's value. -/
def bytesV (L : List UInt8) : Value := .string ⟨L.toArray⟩
theorem all1_w (s t st st2 am am2 tr tr2 ca ca2 : Int) (r q pan pan2 code code2 : ByteArray) (W : World) : Calls Tryd.prog 23 #[.agg #[.int .u32 s, .string r, .int .i64 st, .string pan, .int .u64 am, .string code, .int .i64 tr, .int .i64 ca], .agg #[.int .u32 t, .string q, .int .i64 st2, .string pan2, .int .u64 am2, .string code2, .int .i64 tr2, .int .i64 ca2]] W fun e w' => e = .returned (.int .i64 (ordK s r.data.toList t q.data.toList)) ∧ ∃ n os', w' = grow (W.drewN n) os' := by
  have hk := fun W => kOrder_w s t r q W
  generalize ordK s r.data.toList t q.data.toList = res at hk ⊢
  go_enter Tryd.func23, Tryd.ntmps23
  go_wp2_with (go_at_call 24; refine (hk _).mono ?_; rintro e w' ⟨rfl, n, os', rfl⟩)
  go_ret
  refine ⟨rfl, ?_⟩
  exact ⟨n, _, grown2 ..⟩
end Go.Proofs

namespace Go.Proofs
open Go.Shelf
def Tryd.sortEn_ren : Go.Shelf.Ren := ⟨fun | 6 => 22 | 15 => 41 | 14 => 40 | 28 => 64 | 29 => 65 | 20 => 56 | 21 => 57 | 22 => 58 | 23 => 59 | 24 => 60 | 25 => 61 | 26 => 62 | 27 => 63 | 46 => 76 | 47 => 77 | 48 => 78 | 49 => 79 | 50 => 80 | 57 => 84 | n => n, fun | 22 => 22 | 24 => 37 | 25 => 54 | 3 => 3 | 39 => 68 | 0 => 0 | 53 => 32 | 55 => 35 | 4 => 4 | 46 => 85 | 45 => 84 | 50 => 75 | 5 => 5 | 9 => 9 | 66 => 108 | 70 => 112 | 76 => 120 | 77 => 121 | n => n, fun | n => n⟩
theorem Tryd.sortEn : Go.Proofs.SlLaysF0.n6 Tryd.prog Tryd.sortEn_ren := {
  mixed := by kernel_rfl
  f6 := ⟨Tryd.f22.name, by decide, Tryd.func22.trans (congrArg some (by kernel_rfl))⟩
  f14 := ⟨Tryd.f40.name, by decide, Tryd.func40.trans (congrArg some (by kernel_rfl))⟩
  f15 := Tryd.func41.trans (congrArg some (by kernel_rfl))
  f20 := ⟨Tryd.f56.name, by decide, Tryd.func56.trans (congrArg some (by kernel_rfl))⟩
  f21 := ⟨Tryd.f57.name, by decide, Tryd.func57.trans (congrArg some (by kernel_rfl))⟩
  f22 := ⟨Tryd.f58.name, by decide, Tryd.func58.trans (congrArg some (by kernel_rfl))⟩
  f23 := ⟨Tryd.f59.name, by decide, Tryd.func59.trans (congrArg some (by kernel_rfl))⟩
  f24 := ⟨Tryd.f60.name, by decide, Tryd.func60.trans (congrArg some (by kernel_rfl))⟩
  f25 := ⟨Tryd.f61.name, by decide, Tryd.func61.trans (congrArg some (by kernel_rfl))⟩
  f26 := ⟨Tryd.f62.name, by decide, Tryd.func62.trans (congrArg some (by kernel_rfl))⟩
  f27 := ⟨Tryd.f63.name, by decide, Tryd.func63.trans (congrArg some (by kernel_rfl))⟩
  f28 := Tryd.func64.trans (congrArg some (by kernel_rfl))
  f29 := Tryd.func65.trans (congrArg some (by kernel_rfl))
  f46 := ⟨Tryd.f76.name, by decide, Tryd.func76.trans (congrArg some (by kernel_rfl))⟩
  f47 := Tryd.func77.trans (congrArg some (by kernel_rfl))
  f48 := Tryd.func78.trans (congrArg some (by kernel_rfl))
  f49 := ⟨Tryd.f79.name, by decide, Tryd.func79.trans (congrArg some (by kernel_rfl))⟩
  f50 := ⟨Tryd.f80.name, by decide, Tryd.func80.trans (congrArg some (by kernel_rfl))⟩
  f57 := ⟨Tryd.f84.name, by decide, Tryd.func84.trans (congrArg some (by kernel_rfl))⟩
  t0 := Tryd.underlying0
  a0 := Tryd.isAgg0
  z0 := Tryd.sizeOf0
  v0 := Tryd.zeroValue0
  t3 := Tryd.underlying3
  a3 := Tryd.isAgg3
  z3 := Tryd.sizeOf3
  v3 := Tryd.zeroValue3
  t4 := Tryd.underlying4
  a4 := Tryd.isAgg4
  z4 := Tryd.sizeOf4
  v4 := Tryd.zeroValue4
  t5 := Tryd.underlying5
  a5 := Tryd.isAgg5
  z5 := Tryd.sizeOf5
  v5 := Tryd.zeroValue5
  t9 := Tryd.underlying9
  a9 := Tryd.isAgg9
  z9 := Tryd.sizeOf9
  v9 := Tryd.zeroValue9
  t22 := Tryd.underlying22
  a22 := Tryd.isAgg22
  z22 := Tryd.sizeOf22
  v22 := Tryd.zeroValue22
  t25 := Tryd.underlying54
  a25 := Tryd.isAgg54
  z25 := Tryd.sizeOf54
  v25 := Tryd.zeroValue54
  t39 := Tryd.underlying68
  a39 := Tryd.isAgg68
  z39 := Tryd.sizeOf68
  v39 := Tryd.zeroValue68
  t45 := Tryd.underlying84
  a45 := Tryd.isAgg84
  z45 := Tryd.sizeOf84
  v45 := Tryd.zeroValue84
  t46 := Tryd.underlying85
  a46 := Tryd.isAgg85
  z46 := Tryd.sizeOf85
  v46 := Tryd.zeroValue85
  t50 := Tryd.underlying75
  a50 := Tryd.isAgg75
  z50 := Tryd.sizeOf75
  v50 := Tryd.zeroValue75
  t53 := Tryd.underlying32
  a53 := Tryd.isAgg32
  z53 := Tryd.sizeOf32
  v53 := Tryd.zeroValue32
  t55 := Tryd.underlying35
  a55 := Tryd.isAgg35
  z55 := Tryd.sizeOf35
  v55 := Tryd.zeroValue35
  t66 := Tryd.underlying108
  a66 := Tryd.isAgg108
  z66 := Tryd.sizeOf108
  v66 := Tryd.zeroValue108
  t70 := Tryd.underlying112
  a70 := Tryd.isAgg112
  z70 := Tryd.sizeOf112
  v70 := Tryd.zeroValue112
  t76 := Tryd.underlying120
  a76 := Tryd.isAgg120
  z76 := Tryd.sizeOf120
  v76 := Tryd.zeroValue120
  t77 := Tryd.underlying121
  a77 := Tryd.isAgg121
  z77 := Tryd.sizeOf121
  v77 := Tryd.zeroValue121 }
end Go.Proofs

