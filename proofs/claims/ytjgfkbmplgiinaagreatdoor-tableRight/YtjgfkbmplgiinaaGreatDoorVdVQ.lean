/- Tables: insert, swap, retire. -/
import Derived.Test.YtjgfkbmplgiinaaGreatDoorVdV6
import Derived.Test.YtjgfkbmplgiinaaGreatDoorVdSC
set_option linter.unusedVariables false
set_option linter.unusedSimpArgs false
set_option maxRecDepth 100000
set_option maxHeartbeats 8000000
namespace Go.Vd
open Go.Proofs
theorem eR_key {e : Ent} (h : eR e = true) : keyOk e.s e.r = true := by
  unfold eR at h
  simp only [Bool.and_eq_true, decide_eq_true_eq] at h
  exact h.1
def okE (m : Int) (T : Tbl) (e : Ent) : Bool := bif tbR m T then eR e else false
theorem okE_t {m : Int} {T : Tbl} {e : Ent} (h : okE m T e = true) : tbR m T = true ∧ eR e = true := by
  unfold okE at h
  cases h1 : tbR m T <;> rw [h1] at h
  · cases h
  · exact ⟨rfl, h⟩
theorem shi_in {m : Int} {T : Tbl} {e : Ent} (h : okE m T e = true) : 0 ≤ shi T e.s e.r ∧ shi T e.s e.r < (T.length : Int) := by
  have h1 := okE_t h
  have h2 := tbR_cnt h1.1
  have h3 := eR_key h1.2
  unfold shi shardI
  rw [if_pos ⟨h3, by omega, by omega⟩]
  have := Nat.mod_lt (fnv (decs 6 e.s.toNat ++ e.r)) (show 0 < ((T.length : Nat) : Int).toNat by omega)
  omega
def tInsT (m : Int) (T : Tbl) (e : Ent) : Tbl := if okE m T e = true then (if lkB T e.s e.r = true then T else if m ≤ (cnt T : Int) then T else T.set (shi T e.s e.r).toNat (insL (shl T e.s e.r) e)) else T
def tInsC (m : Int) (T : Tbl) (e : Ent) : Int := if okE m T e = true then (if lkB T e.s e.r = true then 6 else if m ≤ (cnt T : Int) then 7 else insC (shl T e.s e.r) e) else 1
theorem tIns_1 {m : Int} {T : Tbl} {e : Ent} (h : okE m T e = false) : tInsT m T e = T ∧ tInsC m T e = 1 := by unfold tInsT tInsC; rw [h]; exact ⟨rfl, rfl⟩
theorem tIns_6 {m : Int} {T : Tbl} {e : Ent} (h : okE m T e = true) (h1 : lkB T e.s e.r = true) : tInsT m T e = T ∧ tInsC m T e = 6 := by unfold tInsT tInsC; rw [if_pos h, if_pos h, if_pos h1, if_pos h1]; exact ⟨rfl, rfl⟩
theorem tIns_7 {m : Int} {T : Tbl} {e : Ent} (h : okE m T e = true) (h1 : lkB T e.s e.r = false) (h2 : m ≤ (cnt T : Int)) : tInsT m T e = T ∧ tInsC m T e = 7 := by unfold tInsT tInsC; rw [if_pos h, if_pos h, h1, if_pos h2, if_pos h2]; exact ⟨rfl, rfl⟩
theorem tIns_0 {m : Int} {T : Tbl} {e : Ent} (h : okE m T e = true) (h1 : lkB T e.s e.r = false) (h2 : ¬m ≤ (cnt T : Int)) : tInsT m T e = T.set (shi T e.s e.r).toNat (insL (shl T e.s e.r) e) ∧ tInsC m T e = insC (shl T e.s e.r) e := by unfold tInsT tInsC; rw [if_pos h, if_pos h, h1, if_neg h2, if_neg h2]; exact ⟨rfl, rfl⟩
attribute [local irreducible] vc
theorem good_tInsert (m : Int) (T : Tbl) (s st am tr ca : Int) (r pan code : List UInt8) (hQ : tbQ T) (hE : enQ ⟨s, r, st, pan, am, code, tr, ca⟩) : GoodP Tryz.prog gl0 17 [.agg [.int .i64 m, rowS eEs [] 1 std fun _ => T], .agg [.int .u32 s, .str r, .int .i64 st, .str pan, .int .u64 am, .str code, .int .i64 tr, .int .i64 ca]] (.tup [.agg [.int .i64 m, rowS eEs [] 1 std fun _ => tInsT m T ⟨s, r, st, pan, am, code, tr, ca⟩], .int .i64 (std.ti fun _ => tInsC m T ⟨s, r, st, pan, am, code, tr, ca⟩)]) := by
  refine fn_sound' (T := seatT) (G := gv7) (X := noX) seatT_ok gv7_ok noX_ok noI_ok mixed Tryz.func17 (.none) (fun A => [.agg [.int .i64 m, rowS eEs [] 1 A fun _ => T], .agg [.int .u32 s, .str r, .int .i64 st, .str pan, .int .u64 am, .str code, .int .i64 tr, .int .i64 ca]]) (fun A => .tup [.agg [.int .i64 m, rowS eEs [] 1 A fun _ => tInsT m T ⟨s, r, st, pan, am, code, tr, ca⟩], .int .i64 (A.ti fun _ => tInsC m T ⟨s, r, st, pan, am, code, tr, ca⟩)]) fun A hA => ?_
  obtain ⟨E, hEq⟩ : ∃ E : Ent, E = ⟨s, r, st, pan, am, code, tr, ca⟩ := ⟨_, rfl⟩
  rw [← hEq]
  have hok : (bif tbR m T then eR ⟨s, r, st, pan, am, code, tr, ca⟩ else false) = okE m T E := by rw [hEq]; rfl
  have eS : E.s = s := by rw [hEq]
  have eR' : E.r = r := by rw [hEq]
  have hT := hQ.1
  have hTi := hQ.2.1 (shi T s r).toNat
  have hTe := fun j => enQ_S (hQ.2.2 (shi T s r).toNat j)
  cbv
  repeat' (first | with_reducible exact True.intro | with_reducible exact dr_ok hA (by kernel_rfl) | with_reducible refine And.intro ?_ ?_ | (intro hc; cbv))
  all_goals (subst hA; simp only [std_add, std_sub, std_mul, std_quo, std_rem, std_band, std_bor, std_bxor, std_shl, std_shr, std_eq, std_ne, std_lt, std_le, std_conv, std_not, std_beq, std_bne, std_ite, std_want, std_and2, std_sadd, std_seq, std_sne, std_slt, std_sle, std_sgt, std_sge, std_slen, std_sget, std_scut, std_ofNat, std_toNat, std_nsub, std_nadd, std_lenOf, std_nz, std_nneg, std_inb, std_upto, std_slt63, std_grow, std_imp, std_impN, std_tr, std_tb, std_ti, std_ts, std_tn, std_tp, std_nmin, std_nset, std_fset, std_makes, std_room, std_zeros, std_nilq, std_notq, std_eqi, std_eqn, std_eqb, std_eqs, std_eqv, std_cat, std_lst, std_rset, std_rcopy, std_shift, std_eqr, std_strOf, std_bytesOf, std_isB, std_zOf, zOf_int, std_isI, isI_int, std_getL, std_nmul, std_sOf, sOf_str, std_isS, isS_str, std_fadd, std_fsub, std_fav, std_fsv, std_feq, std_fne, std_flt, std_fle, std_fgt, std_fge, std_fOf, std_fTo, std_fTv, isRow_T, lstOf_T, isRow_V, lstOf_V, hok] at *)
  all_goals first
    | done
    | exact ⟨trivial, hQ⟩
    | exact ⟨⟨trivial, hQ⟩, hE.1⟩
    | exact fun h => ⟨h, hE.2.2⟩
    | exact fun h => by rw [h]; rfl
    | (have h1 := tIns_1 (nb_f hc)
       first
         | (rw [h1.1]; done)
         | (rw [h1.1]; exact (Reps.lit _).eqr)
         | (rw [h1.2]; done))
    | (have hr0 : (!okE m T E) = false := by assumption
       have hr := nb_t hr0
       have hcn := tbR_cnt (okE_t hr).1
       have hin := shi_in hr
       rw [eS, eR'] at hin
       first
         | exact ⟨trivial, hT, by omega⟩
         | (have h2 : lkB T s r = true := by assumption
            have h1 := tIns_6 (e := E) hr (by rw [eS, eR']; exact h2)
            first
              | (rw [h1.1]; done)
              | (rw [h1.1]; exact (Reps.lit _).eqr)
              | (rw [h1.2]; done))
         | (have h2 : lkB T s r = false := by assumption
            have h3 := of_decide_eq_true hc
            have h1 := tIns_7 (e := E) hr (by rw [eS, eR']; exact h2) h3
            first
              | (rw [h1.1]; done)
              | (rw [h1.1]; exact (Reps.lit _).eqr)
              | (rw [h1.2]; done))
         | (have h2 : lkB T s r = false := by assumption
            have h3 := of_decide_eq_false hc
            have h1 := tIns_0 (e := E) hr (by rw [eS, eR']; exact h2) h3
            rw [eS, eR'] at h1
            unfold shl at h1
            have hcell := cell_eEs (x := insL (T.getD (shi T s r).toNat []) E) (Reps.lit (enc := eE) (d := E0) (k := 8) _)
            rw [hEq] at hcell
            first
              | exact hin
              | exact ⟨⟨trivial, hTi, hTe⟩, hE.2.2⟩
              | (rw [h1.1, List.length_set]; done)
              | (rw [h1.2, hEq]; done)
              | exact eqr_of ((Reps.lit T).rset' (i := (shi T s r).toNat) (by omega) _ rfl hcell) (by rw [h1.1, List.length_set]) (by rw [h1.1, hEq])
              | trace_state)
         | trace_state)
    | trace_state
noncomputable def c_tInsert : Ct := fun A args => match args with
  | [.agg [.int .i64 m, .slc n 1 f], .agg [.int .u32 s, .str r, .int .i64 st, .str pan, .int .u64 am, .str code, .int .i64 tr, .int .i64 ca]] => some (some (A.tp fun _ => (isRow eEs [] 1 n f ∧ tbQ (lstOf eEs [] 1 n f)) ∧ enQ ⟨s, r, st, pan, am, code, tr, ca⟩), .tup [.agg [.int .i64 m, rowS eEs [] 1 A fun _ => tInsT m (lstOf eEs [] 1 n f) ⟨s, r, st, pan, am, code, tr, ca⟩], .int .i64 (A.ti fun _ => tInsC m (lstOf eEs [] 1 n f) ⟨s, r, st, pan, am, code, tr, ca⟩)])
  | _ => none
def tSwT (m : Int) (T : Tbl) (z : Int) (e : Ent) : Tbl := if okE m T e = true then T.set (shi T e.s e.r).toNat (swL (shl T e.s e.r) z e) else T
def tSwC (m : Int) (T : Tbl) (z : Int) (e : Ent) : Int := if okE m T e = true then swC (shl T e.s e.r) z e else 1
theorem tSw_1 {m : Int} {T : Tbl} {z : Int} {e : Ent} (h : okE m T e = false) : tSwT m T z e = T ∧ tSwC m T z e = 1 := by unfold tSwT tSwC; rw [h]; exact ⟨rfl, rfl⟩
theorem tSw_0 {m : Int} {T : Tbl} {z : Int} {e : Ent} (h : okE m T e = true) : tSwT m T z e = T.set (shi T e.s e.r).toNat (swL (shl T e.s e.r) z e) ∧ tSwC m T z e = swC (shl T e.s e.r) z e := by unfold tSwT tSwC; rw [if_pos h, if_pos h]; exact ⟨rfl, rfl⟩
theorem good_tSwap (m : Int) (T : Tbl) (z s st am tr ca : Int) (r pan code : List UInt8) (hQ : tbQ T) (hE : enQ ⟨s, r, st, pan, am, code, tr, ca⟩) : GoodP Tryz.prog gl0 19 [.agg [.int .i64 m, rowS eEs [] 1 std fun _ => T], .int .i64 z, .agg [.int .u32 s, .str r, .int .i64 st, .str pan, .int .u64 am, .str code, .int .i64 tr, .int .i64 ca]] (.tup [.agg [.int .i64 m, rowS eEs [] 1 std fun _ => tSwT m T z ⟨s, r, st, pan, am, code, tr, ca⟩], .int .i64 (std.ti fun _ => tSwC m T z ⟨s, r, st, pan, am, code, tr, ca⟩)]) := by
  refine fn_sound' (T := seatT) (G := gv7) (X := noX) seatT_ok gv7_ok noX_ok noI_ok mixed Tryz.func19 (.none) (fun A => [.agg [.int .i64 m, rowS eEs [] 1 A fun _ => T], .int .i64 z, .agg [.int .u32 s, .str r, .int .i64 st, .str pan, .int .u64 am, .str code, .int .i64 tr, .int .i64 ca]]) (fun A => .tup [.agg [.int .i64 m, rowS eEs [] 1 A fun _ => tSwT m T z ⟨s, r, st, pan, am, code, tr, ca⟩], .int .i64 (A.ti fun _ => tSwC m T z ⟨s, r, st, pan, am, code, tr, ca⟩)]) fun A hA => ?_
  obtain ⟨E, hEq⟩ : ∃ E : Ent, E = ⟨s, r, st, pan, am, code, tr, ca⟩ := ⟨_, rfl⟩
  rw [← hEq]
  have hok : (bif tbR m T then eR ⟨s, r, st, pan, am, code, tr, ca⟩ else false) = okE m T E := by rw [hEq]; rfl
  have eS : E.s = s := by rw [hEq]
  have eR' : E.r = r := by rw [hEq]
  have hT := hQ.1
  have hsh : shardI s r (T.length : Int) = shi T s r := rfl
  have hTi := hQ.2.1 (shi T s r).toNat
  have hTe := fun j => enQ_S (hQ.2.2 (shi T s r).toNat j)
  cbv
  repeat' (first | with_reducible exact True.intro | with_reducible exact dr_ok hA (by kernel_rfl) | with_reducible refine And.intro ?_ ?_ | (intro hc; cbv))
  all_goals (subst hA; simp only [std_add, std_sub, std_mul, std_quo, std_rem, std_band, std_bor, std_bxor, std_shl, std_shr, std_eq, std_ne, std_lt, std_le, std_conv, std_not, std_beq, std_bne, std_ite, std_want, std_and2, std_sadd, std_seq, std_sne, std_slt, std_sle, std_sgt, std_sge, std_slen, std_sget, std_scut, std_ofNat, std_toNat, std_nsub, std_nadd, std_lenOf, std_nz, std_nneg, std_inb, std_upto, std_slt63, std_grow, std_imp, std_impN, std_tr, std_tb, std_ti, std_ts, std_tn, std_tp, std_nmin, std_nset, std_fset, std_makes, std_room, std_zeros, std_nilq, std_notq, std_eqi, std_eqn, std_eqb, std_eqs, std_eqv, std_cat, std_lst, std_rset, std_rcopy, std_shift, std_eqr, std_strOf, std_bytesOf, std_isB, std_zOf, zOf_int, std_isI, isI_int, std_getL, std_nmul, std_sOf, sOf_str, std_isS, isS_str, std_fadd, std_fsub, std_fav, std_fsv, std_feq, std_fne, std_flt, std_fle, std_fgt, std_fge, std_fOf, std_fTo, std_fTv, isRow_T, lstOf_T, isRow_V, lstOf_V, hok, hsh] at *)
  all_goals first
    | done
    | exact hE.1
    | exact ⟨trivial, hQ⟩
    | exact fun h => ⟨h, hE.2.2⟩
    | exact fun h => by rw [h]; rfl
    | (have h1 := tSw_1 (z := z) (nb_f hc)
       first
         | (rw [h1.1]; done)
         | (rw [h1.1]; exact (Reps.lit _).eqr)
         | (rw [h1.2]; done))
    | (have hr0 : (!okE m T E) = false := by assumption
       have hr := nb_t hr0
       have hcn := tbR_cnt (okE_t hr).1
       have hin := shi_in hr
       rw [eS, eR'] at hin
       have h1 := tSw_0 (z := z) hr
       rw [eS, eR'] at h1
       unfold shl at h1
       have hcell := cell_eEs (x := swL (T.getD (shi T s r).toNat []) z E) (Reps.lit (enc := eE) (d := E0) (k := 8) _)
       rw [hEq] at hcell
       first
         | exact hin
         | exact ⟨⟨trivial, hTi, hTe⟩, hE.2.2⟩
         | (rw [h1.1, List.length_set]; done)
         | (rw [h1.2, hEq]; done)
         | exact eqr_of ((Reps.lit T).rset' (i := (shi T s r).toNat) (by omega) _ rfl hcell) (by rw [h1.1, List.length_set]) (by rw [h1.1, hEq])
         | trace_state)
    | trace_state
noncomputable def c_tSwap : Ct := fun A args => match args with
  | [.agg [.int .i64 m, .slc n 1 f], .int .i64 z, .agg [.int .u32 s, .str r, .int .i64 st, .str pan, .int .u64 am, .str code, .int .i64 tr, .int .i64 ca]] => some (some (A.tp fun _ => (isRow eEs [] 1 n f ∧ tbQ (lstOf eEs [] 1 n f)) ∧ enQ ⟨s, r, st, pan, am, code, tr, ca⟩), .tup [.agg [.int .i64 m, rowS eEs [] 1 A fun _ => tSwT m (lstOf eEs [] 1 n f) z ⟨s, r, st, pan, am, code, tr, ca⟩], .int .i64 (A.ti fun _ => tSwC m (lstOf eEs [] 1 n f) z ⟨s, r, st, pan, am, code, tr, ca⟩)])
  | _ => none
def stW (z : Int) : Bool := bif z == 1 then true else z == 4
def tRtT (m : Int) (T : Tbl) (s : Int) (r : List UInt8) : Tbl := if tbR m T = true then (if lkB T s r = true then (if stW (lkE T s r).st = true then T else T.set (shi T s r).toNat (rmL (shl T s r) s r)) else T) else T
def tRtC (m : Int) (T : Tbl) (s : Int) (r : List UInt8) : Int := if tbR m T = true then (if lkB T s r = true then (if stW (lkE T s r).st = true then 8 else rmC (shl T s r) s r) else 5) else 1
theorem tRt_1 {m : Int} {T : Tbl} {s : Int} {r : List UInt8} (h : tbR m T = false) : tRtT m T s r = T ∧ tRtC m T s r = 1 := by unfold tRtT tRtC; rw [h]; exact ⟨rfl, rfl⟩
theorem tRt_5 {m : Int} {T : Tbl} {s : Int} {r : List UInt8} (h : tbR m T = true) (h1 : lkB T s r = false) : tRtT m T s r = T ∧ tRtC m T s r = 5 := by unfold tRtT tRtC; rw [if_pos h, if_pos h, h1]; exact ⟨rfl, rfl⟩
theorem tRt_8 {m : Int} {T : Tbl} {s : Int} {r : List UInt8} (h : tbR m T = true) (h1 : lkB T s r = true) (h2 : stW (lkE T s r).st = true) : tRtT m T s r = T ∧ tRtC m T s r = 8 := by unfold tRtT tRtC; rw [if_pos h, if_pos h, if_pos h1, if_pos h1, if_pos h2, if_pos h2]; exact ⟨rfl, rfl⟩
theorem tRt_0 {m : Int} {T : Tbl} {s : Int} {r : List UInt8} (h : tbR m T = true) (h1 : lkB T s r = true) (h2 : stW (lkE T s r).st = false) : tRtT m T s r = T.set (shi T s r).toNat (rmL (shl T s r) s r) ∧ tRtC m T s r = rmC (shl T s r) s r := by unfold tRtT tRtC; rw [if_pos h, if_pos h, if_pos h1, if_pos h1, h2]; exact ⟨rfl, rfl⟩
theorem lkB_in {T : Tbl} {s : Int} {r : List UInt8} (h : lkB T s r = true) : 0 ≤ shi T s r ∧ shi T s r < (T.length : Int) := by
  unfold lkB at h
  split at h
  · cases h
  · have := shardI_in s r (T.length : Int)
    have h2 : shi T s r = shardI s r (T.length : Int) := rfl
    rw [← h2] at this
    rcases this with h3 | h3
    · omega
    · exact h3.2
theorem good_tRetire (m : Int) (T : Tbl) (s : Int) (r : List UInt8) (hQ : tbQ T) (hs : 0 ≤ s ∧ s < 4294967296) : GoodP Tryz.prog gl0 21 [.agg [.int .i64 m, rowS eEs [] 1 std fun _ => T], .agg [.int .u32 s, .str r]] (.tup [.agg [.int .i64 m, rowS eEs [] 1 std fun _ => tRtT m T s r], .int .i64 (std.ti fun _ => tRtC m T s r)]) := by
  refine fn_sound' (T := seatT) (G := gv7) (X := noX) seatT_ok gv7_ok noX_ok noI_ok mixed Tryz.func21 (.none) (fun A => [.agg [.int .i64 m, rowS eEs [] 1 A fun _ => T], .agg [.int .u32 s, .str r]]) (fun A => .tup [.agg [.int .i64 m, rowS eEs [] 1 A fun _ => tRtT m T s r], .int .i64 (A.ti fun _ => tRtC m T s r)]) fun A hA => ?_
  have hT := hQ.1
  have hTi := hQ.2.1 (shi T s r).toNat
  have hTe := fun j => enQ_S (hQ.2.2 (shi T s r).toNat j)
  have hst : (bif (lkE T s r).st == 1 then true else (lkE T s r).st == 4) = stW (lkE T s r).st := rfl
  cbv
  repeat' (first | with_reducible exact True.intro | with_reducible exact dr_ok hA (by kernel_rfl) | with_reducible refine And.intro ?_ ?_ | (intro hc; cbv))
  all_goals (subst hA; simp only [std_add, std_sub, std_mul, std_quo, std_rem, std_band, std_bor, std_bxor, std_shl, std_shr, std_eq, std_ne, std_lt, std_le, std_conv, std_not, std_beq, std_bne, std_ite, std_want, std_and2, std_sadd, std_seq, std_sne, std_slt, std_sle, std_sgt, std_sge, std_slen, std_sget, std_scut, std_ofNat, std_toNat, std_nsub, std_nadd, std_lenOf, std_nz, std_nneg, std_inb, std_upto, std_slt63, std_grow, std_imp, std_impN, std_tr, std_tb, std_ti, std_ts, std_tn, std_tp, std_nmin, std_nset, std_fset, std_makes, std_room, std_zeros, std_nilq, std_notq, std_eqi, std_eqn, std_eqb, std_eqs, std_eqv, std_cat, std_lst, std_rset, std_rcopy, std_shift, std_eqr, std_strOf, std_bytesOf, std_isB, std_zOf, zOf_int, std_isI, isI_int, std_getL, std_nmul, std_sOf, sOf_str, std_isS, isS_str, std_fadd, std_fsub, std_fav, std_fsv, std_feq, std_fne, std_flt, std_fle, std_fgt, std_fge, std_fOf, std_fTo, std_fTv, isRow_T, lstOf_T, isRow_V, lstOf_V, hst] at *)
  all_goals first
    | done
    | exact ⟨trivial, hQ⟩
    | exact ⟨⟨trivial, hQ⟩, hs⟩
    | (have h1 := tRt_1 (s := s) (r := r) (nb_f hc)
       first
         | (rw [h1.1]; done)
         | (rw [h1.1]; exact (Reps.lit _).eqr)
         | (rw [h1.2]; done))
    | (have hr0 : (!tbR m T) = false := by assumption
       have hr := nb_t hr0
       have hcn := tbR_cnt hr
       first
         | (have h2 : (!lkB T s r) = true := by assumption
            have h1 := tRt_5 hr (nb_f h2)
            first
              | (rw [h1.1]; done)
              | (rw [h1.1]; exact (Reps.lit _).eqr)
              | (rw [h1.2]; done))
         | (have h2 : (!lkB T s r) = false := by assumption
            have h1 := tRt_8 hr (nb_t h2) hc
            first
              | (rw [h1.1]; done)
              | (rw [h1.1]; exact (Reps.lit _).eqr)
              | (rw [h1.2]; done))
         | (have h2 : (!lkB T s r) = false := by assumption
            have hin := lkB_in (nb_t h2)
            have h1 := tRt_0 hr (nb_t h2) hc
            unfold shl at h1
            have hcell := cell_eEs (x := rmL (T.getD (shi T s r).toNat []) s r) (Reps.lit (enc := eE) (d := E0) (k := 8) _)
            first
              | exact hin
              | exact ⟨trivial, hTi, hTe⟩
              | (rw [h1.1, List.length_set]; done)
              | (rw [h1.2]; done)
              | exact eqr_of ((Reps.lit T).rset' (i := (shi T s r).toNat) (by omega) _ rfl hcell) (by rw [h1.1, List.length_set]) h1.1.symm
              | trace_state)
         | exact fun h => h
         | exact fun h => by rw [h]; rfl
         | trace_state)
    | trace_state
noncomputable def c_tRetire : Ct := fun A args => match args with
  | [.agg [.int .i64 m, .slc n 1 f], .agg [.int .u32 s, .str r]] => some (some (A.tp fun _ => (isRow eEs [] 1 n f ∧ tbQ (lstOf eEs [] 1 n f)) ∧ 0 ≤ s ∧ s < 4294967296), .tup [.agg [.int .i64 m, rowS eEs [] 1 A fun _ => tRtT m (lstOf eEs [] 1 n f) s r], .int .i64 (A.ti fun _ => tRtC m (lstOf eEs [] 1 n f) s r)])
  | _ => none
noncomputable def gv8 : Ar → Pu := addC 17 c_tInsert (addC 19 c_tSwap (addC 21 c_tRetire (gv7)))
theorem gv8_ok : PuOk Tryz.prog gl0 (gv8 std) := by
  refine addC_ok (addC_ok (addC_ok (gv7_ok) ⟨_, Tryz.func21, rfl, by decide⟩ ?_) ⟨_, Tryz.func19, rfl, by decide⟩ ?_) ⟨_, Tryz.func17, rfl, by decide⟩ ?_
  · intro args p r h hp
    unfold c_tRetire at h
    split at h <;> cases h
    exact good_sv (good_tRetire _ _ _ _ hp.1.2 hp.2) ⟨⟨_, rfl, rfl, hp.1.1.sv, trivial⟩, ⟨_, rfl, rfl, rfl, trivial⟩, trivial⟩
  · intro args p r h hp
    unfold c_tSwap at h
    split at h <;> cases h
    exact good_sv (good_tSwap _ _ _ _ _ _ _ _ _ _ _ hp.1.2 hp.2) ⟨⟨_, rfl, rfl, hp.1.1.sv, trivial⟩, rfl, ⟨_, rfl, rfl, rfl, rfl, rfl, rfl, rfl, rfl, rfl, trivial⟩, trivial⟩
  · intro args p r h hp
    unfold c_tInsert at h
    split at h <;> cases h
    exact good_sv (good_tInsert _ _ _ _ _ _ _ _ _ _ hp.1.2 hp.2) ⟨⟨_, rfl, rfl, hp.1.1.sv, trivial⟩, ⟨_, rfl, rfl, rfl, rfl, rfl, rfl, rfl, rfl, rfl, trivial⟩, trivial⟩
end Go.Vd

set_option linter.unusedVariables false
set_option linter.unusedSimpArgs false
set_option maxRecDepth 100000
set_option maxHeartbeats 8000000
namespace Go.Vd
open Go.Proofs
def tSh (T : Tbl) : Bool := decide (T.length ≤ 20) && (T.all shL && decide (cnt T ≤ 200))
theorem tSh_no {T : Tbl} {i : Nat} (hi : i < T.length) (h : shL (T.getD i []) = false) : tSh T = false := by
  have : T.all shL = false := by
    rw [Bool.eq_false_iff]
    intro h2
    rw [List.all_eq_true] at h2
    rw [List.getD_eq_getElem?_getD, List.getElem?_eq_getElem hi] at h
    have h3 := h2 _ (List.getElem_mem hi)
    simp at h
    rw [h3] at h
    cases h
  unfold tSh
  rw [this]
  simp
theorem tSh_all {T : Tbl} (h : ∀ j, j < T.length → shL (T.getD j []) = true) : T.all shL = true := by
  rw [List.all_eq_true]
  intro x hx
  obtain ⟨j, hj, rfl⟩ := List.getElem_of_mem hx
  have := h j hj
  rw [List.getD_eq_getElem?_getD, List.getElem?_eq_getElem hj] at this
  exact this
theorem tSh_big {T : Tbl} (h : ¬T.length ≤ 20) : tSh T = false := by simp [tSh, h]
theorem cnt_sh {T : Tbl} : ∀ {i : Nat}, i ≤ T.length → (∀ j, j < i → shL (T.getD j []) = true) → cnt (T.take i) ≤ 200 * i
  | 0, _, _ => by simp [cnt]
  | i + 1, hi, h => by
    rw [cnt_snoc T (by omega)]
    have h1 := cnt_sh (T := T) (i := i) (by omega) fun j hj => h j (by omega)
    have h2 := (shL_iff.1 (h i (by omega))).1
    omega
attribute [local irreducible] vc
theorem good_tShort (m : Int) (T : Tbl) (hT : T.length ≤ 9223372036854775807) (hTi : ∀ i, (T.getD i []).length ≤ 9223372036854775807) : GoodP Tryz.prog gl0 5 [.agg [.int .i64 m, rowS eEs [] 1 std fun _ => T]] (.bool (std.tb fun _ => tSh T)) := by
  refine fn_sound' (T := seatT) (G := gs9) (X := noX) seatT_ok gs9_ok noX_ok noI_ok mixed Tryz.func5 (.one) (fun A => [.agg [.int .i64 m, rowS eEs [] 1 A fun _ => T]]) (fun A => .bool (A.tb fun _ => tSh T)) fun A hA => ?_
  cbv
  repeat' (first | with_reducible exact True.intro | with_reducible exact dr_ok hA (by kernel_rfl) | with_reducible refine And.intro ?_ ?_ | (intro hc; cbv))
  refine ⟨⟨{p : Nat × Nat // p.1 ≤ T.length ∧ p.1 ≤ 20 ∧ p.2 = cnt (T.take p.1) ∧ ∀ j, j < p.1 → shL (T.getD j []) = true}, fun b p => [(3, .int .i64 (p.1.2 : Nat)), (4, .int .i64 (p.1.1 : Nat))], fun b p => [], fun p => T.length - p.1.1, true⟩, ⟨⟨(0, 0), by omega, by omega, rfl, by simp⟩, ?_⟩, ?_⟩
  · cbv
    subst hA
    simp [-List.getD_eq_getElem?_getD, std_add, std_sub, std_mul, std_quo, std_rem, std_band, std_bor, std_bxor, std_shl, std_shr, std_eq, std_ne, std_lt, std_le, std_conv, std_not, std_beq, std_bne, std_ite, std_want, std_and2, std_sadd, std_seq, std_sne, std_slt, std_sle, std_sgt, std_sge, std_slen, std_sget, std_scut, std_ofNat, std_toNat, std_nsub, std_nadd, std_lenOf, std_nz, std_nneg, std_inb, std_upto, std_slt63, std_grow, std_imp, std_impN, std_tr, std_tb, std_ti, std_ts, std_tn, std_tp, std_nmin, std_nset, std_fset, std_makes, std_room, std_zeros, std_nilq, std_notq, std_eqi, std_eqn, std_eqb, std_eqs, std_eqv, std_cat, std_lst, std_rset, std_rcopy, std_shift, std_eqr, std_strOf, std_bytesOf, std_isB, std_zOf, zOf_int, std_isI, isI_int, std_getL, std_nmul, std_sOf, sOf_str, std_isS, isS_str, std_fadd, std_fsub, std_fav, std_fsv, std_feq, std_fne, std_flt, std_fle, std_fgt, std_fge, std_fOf, std_fTo, std_fTv]
  · rintro ⟨⟨i, q⟩, hx⟩
    have hi : i ≤ T.length := hx.1
    have h20 : i ≤ 20 := hx.2.1
    have hq : q = cnt (T.take i) := hx.2.2.1
    have hz : ∀ j, j < i → shL (T.getD j []) = true := hx.2.2.2
    have hTl := hTi i
    have hq2 := cnt_sh hi hz
    rw [← hq] at hq2
    obtain ⟨L, hL⟩ : ∃ L, L = T.getD i [] := ⟨_, rfl⟩
    have hgL : T.getD i [] = L := hL.symm
    rw [hgL] at hTl
    rcases Nat.lt_or_ge i T.length with hlt | hge
    · have hno := fun h => tSh_no (T := T) hlt (h : shL (T.getD i []) = false)
      rw [hgL] at hno
      have h1 := cnt_snoc T hlt
      obtain ⟨i', hi'⟩ : ∃ i', i' = i + 1 := ⟨_, rfl⟩
      obtain ⟨q', hq'⟩ : ∃ q', q' = cnt (T.take i') := ⟨_, rfl⟩
      rw [← hi', ← hq, ← hq', hgL] at h1
      cbv
      repeat' (first | with_reducible exact True.intro | with_reducible exact dr_ok hA (by kernel_rfl) | with_reducible refine And.intro ?_ ?_ | (intro hc; cbv))
      all_goals first
        | (fail_if_success (refine Exists.intro ?_ ?_)
           clear hz hx
           subst hA
           simp only [std_add, std_sub, std_mul, std_quo, std_rem, std_band, std_bor, std_bxor, std_shl, std_shr, std_eq, std_ne, std_lt, std_le, std_conv, std_not, std_beq, std_bne, std_ite, std_want, std_and2, std_sadd, std_seq, std_sne, std_slt, std_sle, std_sgt, std_sge, std_slen, std_sget, std_scut, std_ofNat, std_toNat, std_nsub, std_nadd, std_lenOf, std_nz, std_nneg, std_inb, std_upto, std_slt63, std_grow, std_imp, std_impN, std_tr, std_tb, std_ti, std_ts, std_tn, std_tp, std_nmin, std_nset, std_fset, std_makes, std_room, std_zeros, std_nilq, std_notq, std_eqi, std_eqn, std_eqb, std_eqs, std_eqv, std_cat, std_lst, std_rset, std_rcopy, std_shift, std_eqr, std_strOf, std_bytesOf, std_isB, std_zOf, zOf_int, std_isI, isI_int, std_getL, std_nmul, std_sOf, sOf_str, std_isS, isS_str, std_fadd, std_fsub, std_fav, std_fsv, std_feq, std_fne, std_flt, std_fle, std_fgt, std_fge, std_fOf, std_fTo, std_fTv, Int.ofNat_eq_natCast, Int.toNat_natCast, isRow_V, lstOf_V, isRow_T, lstOf_T] at *
           simp only [hgL] at *
           first
             | done
             | omega
             | (intros; omega)
             | (constructor <;> omega)
             | exact ⟨trivial, hTl⟩
             | exact fun h => h
             | exact fun h => ⟨h, h⟩
             | exact fun h => by rw [h]; rfl
             | exact (hno (nb_f hc)).symm
             | (have hb : ¬T.length ≤ 20 := by
                  simp at hc
                  omega
                rw [tSh_big hb]
                simp at hc ⊢
                omega))
        | (obtain ⟨h2, h3⟩ : shL L = true ∧ i < 20 := by
             clear hz hno hx
             subst hA
             simp only [std_add, std_sub, std_mul, std_quo, std_rem, std_band, std_bor, std_bxor, std_shl, std_shr, std_eq, std_ne, std_lt, std_le, std_conv, std_not, std_beq, std_bne, std_ite, std_want, std_and2, std_sadd, std_seq, std_sne, std_slt, std_sle, std_sgt, std_sge, std_slen, std_sget, std_scut, std_ofNat, std_toNat, std_nsub, std_nadd, std_lenOf, std_nz, std_nneg, std_inb, std_upto, std_slt63, std_grow, std_imp, std_impN, std_tr, std_tb, std_ti, std_ts, std_tn, std_tp, std_nmin, std_nset, std_fset, std_makes, std_room, std_zeros, std_nilq, std_notq, std_eqi, std_eqn, std_eqb, std_eqs, std_eqv, std_cat, std_lst, std_rset, std_rcopy, std_shift, std_eqr, std_strOf, std_bytesOf, std_isB, std_zOf, zOf_int, std_isI, isI_int, std_getL, std_nmul, std_sOf, sOf_str, std_isS, isS_str, std_fadd, std_fsub, std_fav, std_fsv, std_feq, std_fne, std_flt, std_fle, std_fgt, std_fge, std_fOf, std_fTo, std_fTv, Int.ofNat_eq_natCast, Int.toNat_natCast, isRow_V, lstOf_V, isRow_T, lstOf_T] at *
             simp only [hgL] at *
             rename_i hc0
             refine ⟨nb_t hc, ?_⟩
             simp at hc0
             omega
           have h4 := (shL_iff.1 h2).1
           refine ⟨⟨(i', q'), by omega, by omega, hq', fun j hj => ?_⟩, ?_, show T.length - i' < T.length - i by omega⟩
           · rcases Nat.lt_or_ge j i with h | h
             · exact hz j h
             · obtain rfl : j = i := by omega
               rw [hgL]; exact h2
           · cbv
             subst hA
             simp [-List.getD_eq_getElem?_getD, std_add, std_sub, std_mul, std_quo, std_rem, std_band, std_bor, std_bxor, std_shl, std_shr, std_eq, std_ne, std_lt, std_le, std_conv, std_not, std_beq, std_bne, std_ite, std_want, std_and2, std_sadd, std_seq, std_sne, std_slt, std_sle, std_sgt, std_sge, std_slen, std_sget, std_scut, std_ofNat, std_toNat, std_nsub, std_nadd, std_lenOf, std_nz, std_nneg, std_inb, std_upto, std_slt63, std_grow, std_imp, std_impN, std_tr, std_tb, std_ti, std_ts, std_tn, std_tp, std_nmin, std_nset, std_fset, std_makes, std_room, std_zeros, std_nilq, std_notq, std_eqi, std_eqn, std_eqb, std_eqs, std_eqv, std_cat, std_lst, std_rset, std_rcopy, std_shift, std_eqr, std_strOf, std_bytesOf, std_isB, std_zOf, zOf_int, std_isI, isI_int, std_getL, std_nmul, std_sOf, sOf_str, std_isS, isS_str, std_fadd, std_fsub, std_fav, std_fsv, std_feq, std_fne, std_flt, std_fle, std_fgt, std_fge, std_fOf, std_fTo, std_fTv, hgL]
             exact ⟨by rw [w64 (by omega)]; omega, w_succ' hi' (by omega)⟩)
        | trace_state
    · have hie : i = T.length := by omega
      rw [hie, List.take_length] at hq
      have hall := tSh_all fun j hj => hz j (by omega)
      cbv
      repeat' (first | with_reducible exact True.intro | with_reducible exact dr_ok hA (by kernel_rfl) | with_reducible refine And.intro ?_ ?_ | (intro hc; cbv))
      all_goals first
        | (exfalso; clear hz hall hx; subst hA; simp [-List.getD_eq_getElem?_getD, std_add, std_sub, std_mul, std_quo, std_rem, std_band, std_bor, std_bxor, std_shl, std_shr, std_eq, std_ne, std_lt, std_le, std_conv, std_not, std_beq, std_bne, std_ite, std_want, std_and2, std_sadd, std_seq, std_sne, std_slt, std_sle, std_sgt, std_sge, std_slen, std_sget, std_scut, std_ofNat, std_toNat, std_nsub, std_nadd, std_lenOf, std_nz, std_nneg, std_inb, std_upto, std_slt63, std_grow, std_imp, std_impN, std_tr, std_tb, std_ti, std_ts, std_tn, std_tp, std_nmin, std_nset, std_fset, std_makes, std_room, std_zeros, std_nilq, std_notq, std_eqi, std_eqn, std_eqb, std_eqs, std_eqv, std_cat, std_lst, std_rset, std_rcopy, std_shift, std_eqr, std_strOf, std_bytesOf, std_isB, std_zOf, zOf_int, std_isI, isI_int, std_getL, std_nmul, std_sOf, sOf_str, std_isS, isS_str, std_fadd, std_fsub, std_fav, std_fsv, std_feq, std_fne, std_flt, std_fle, std_fgt, std_fge, std_fOf, std_fTo, std_fTv] at hc; omega)
        | (exfalso; clear hz hall hx; subst hA; rename_i q0; simp [-List.getD_eq_getElem?_getD, std_add, std_sub, std_mul, std_quo, std_rem, std_band, std_bor, std_bxor, std_shl, std_shr, std_eq, std_ne, std_lt, std_le, std_conv, std_not, std_beq, std_bne, std_ite, std_want, std_and2, std_sadd, std_seq, std_sne, std_slt, std_sle, std_sgt, std_sge, std_slen, std_sget, std_scut, std_ofNat, std_toNat, std_nsub, std_nadd, std_lenOf, std_nz, std_nneg, std_inb, std_upto, std_slt63, std_grow, std_imp, std_impN, std_tr, std_tb, std_ti, std_ts, std_tn, std_tp, std_nmin, std_nset, std_fset, std_makes, std_room, std_zeros, std_nilq, std_notq, std_eqi, std_eqn, std_eqb, std_eqs, std_eqv, std_cat, std_lst, std_rset, std_rcopy, std_shift, std_eqr, std_strOf, std_bytesOf, std_isB, std_zOf, zOf_int, std_isI, isI_int, std_getL, std_nmul, std_sOf, sOf_str, std_isS, isS_str, std_fadd, std_fsub, std_fav, std_fsv, std_feq, std_fne, std_flt, std_fle, std_fgt, std_fge, std_fOf, std_fTo, std_fTv] at q0; omega)
        | (clear hz hx
           subst hA
           simp only [std_add, std_sub, std_mul, std_quo, std_rem, std_band, std_bor, std_bxor, std_shl, std_shr, std_eq, std_ne, std_lt, std_le, std_conv, std_not, std_beq, std_bne, std_ite, std_want, std_and2, std_sadd, std_seq, std_sne, std_slt, std_sle, std_sgt, std_sge, std_slen, std_sget, std_scut, std_ofNat, std_toNat, std_nsub, std_nadd, std_lenOf, std_nz, std_nneg, std_inb, std_upto, std_slt63, std_grow, std_imp, std_impN, std_tr, std_tb, std_ti, std_ts, std_tn, std_tp, std_nmin, std_nset, std_fset, std_makes, std_room, std_zeros, std_nilq, std_notq, std_eqi, std_eqn, std_eqb, std_eqs, std_eqv, std_cat, std_lst, std_rset, std_rcopy, std_shift, std_eqr, std_strOf, std_bytesOf, std_isB, std_zOf, zOf_int, std_isI, isI_int, std_getL, std_nmul, std_sOf, sOf_str, std_isS, isS_str, std_fadd, std_fsub, std_fav, std_fsv, std_feq, std_fne, std_flt, std_fle, std_fgt, std_fge, std_fOf, std_fTo, std_fTv, Int.ofNat_eq_natCast, Int.toNat_natCast, isRow_V, lstOf_V, isRow_T, lstOf_T] at *
           first
             | done
             | omega
             | (intros; omega)
             | exact fun h => h
             | exact fun h => ⟨h, h⟩
             | exact fun h => by rw [h]; rfl
             | (unfold tSh
                rw [hall, hq, Bool.eq_iff_iff]
                simp
                omega))
        | trace_state
noncomputable def c_tShort : Ct := fun A args => match args with
  | [.agg [.int .i64 m, .slc n 1 f]] => some (some (A.tp fun _ => isRow eEs [] 1 n f ∧ n ≤ 9223372036854775807 ∧ ∀ i, ((lstOf eEs [] 1 n f).getD i []).length ≤ 9223372036854775807), .bool (A.tb fun _ => tSh (lstOf eEs [] 1 n f)))
  | _ => none
theorem good_tSame (m m' : Int) (T T' : Tbl) (hQ : tbQ T) : GoodP Tryz.prog gl0 9 [.agg [.int .i64 m, rowS eEs [] 1 std fun _ => T], .agg [.int .i64 m', rowS eEs [] 1 std fun _ => T']] (.bool (std.tb fun _ => decide (m = m' ∧ T = T'))) := by
  refine fn_sound' (T := seatT) (G := gs9) (X := noX) seatT_ok gs9_ok noX_ok noI_ok mixed Tryz.func9 (.one) (fun A => [.agg [.int .i64 m, rowS eEs [] 1 A fun _ => T], .agg [.int .i64 m', rowS eEs [] 1 A fun _ => T']]) (fun A => .bool (A.tb fun _ => decide (m = m' ∧ T = T'))) fun A hA => ?_
  cbv
  repeat' (first | with_reducible exact True.intro | with_reducible exact dr_ok hA (by kernel_rfl) | with_reducible refine And.intro ?_ ?_ | (intro hc; cbv))
  rotate_right
  all_goals first
    | (fail_if_success (refine Exists.intro ?_ ?_)
       subst hA
       simp only [std_add, std_sub, std_mul, std_quo, std_rem, std_band, std_bor, std_bxor, std_shl, std_shr, std_eq, std_ne, std_lt, std_le, std_conv, std_not, std_beq, std_bne, std_ite, std_want, std_and2, std_sadd, std_seq, std_sne, std_slt, std_sle, std_sgt, std_sge, std_slen, std_sget, std_scut, std_ofNat, std_toNat, std_nsub, std_nadd, std_lenOf, std_nz, std_nneg, std_inb, std_upto, std_slt63, std_grow, std_imp, std_impN, std_tr, std_tb, std_ti, std_ts, std_tn, std_tp, std_nmin, std_nset, std_fset, std_makes, std_room, std_zeros, std_nilq, std_notq, std_eqi, std_eqn, std_eqb, std_eqs, std_eqv, std_cat, std_lst, std_rset, std_rcopy, std_shift, std_eqr, std_strOf, std_bytesOf, std_isB, std_zOf, zOf_int, std_isI, isI_int, std_getL, std_nmul, std_sOf, sOf_str, std_isS, isS_str, std_fadd, std_fsub, std_fav, std_fsv, std_feq, std_fne, std_flt, std_fle, std_fgt, std_fge, std_fOf, std_fTo, std_fTv, Int.ofNat_eq_natCast, Int.toNat_natCast, isRow_V, lstOf_V, isRow_T, lstOf_T] at *
       first
         | done
         | exact fun h => h
             | exact fun h => ⟨h, h⟩
         | exact fun h => by rw [h]; rfl
         | (symm
            rw [decide_eq_false_iff_not]
            rintro ⟨e1, e2⟩
            subst e1 e2
            simp at hc
            done))
    | skip
  obtain ⟨hm, hl⟩ : m = m' ∧ T.length = T'.length := by
    subst hA
    simp only [std_add, std_sub, std_mul, std_quo, std_rem, std_band, std_bor, std_bxor, std_shl, std_shr, std_eq, std_ne, std_lt, std_le, std_conv, std_not, std_beq, std_bne, std_ite, std_want, std_and2, std_sadd, std_seq, std_sne, std_slt, std_sle, std_sgt, std_sge, std_slen, std_sget, std_scut, std_ofNat, std_toNat, std_nsub, std_nadd, std_lenOf, std_nz, std_nneg, std_inb, std_upto, std_slt63, std_grow, std_imp, std_impN, std_tr, std_tb, std_ti, std_ts, std_tn, std_tp, std_nmin, std_nset, std_fset, std_makes, std_room, std_zeros, std_nilq, std_notq, std_eqi, std_eqn, std_eqb, std_eqs, std_eqv, std_cat, std_lst, std_rset, std_rcopy, std_shift, std_eqr, std_strOf, std_bytesOf, std_isB, std_zOf, zOf_int, std_isI, isI_int, std_getL, std_nmul, std_sOf, sOf_str, std_isS, isS_str, std_fadd, std_fsub, std_fav, std_fsv, std_feq, std_fne, std_flt, std_fle, std_fgt, std_fge, std_fOf, std_fTo, std_fTv, Int.ofNat_eq_natCast, Int.toNat_natCast, isRow_V, lstOf_V, isRow_T, lstOf_T] at *
    simp at hc
    exact ⟨hc.1, by omega⟩
  refine ⟨⟨{i : Nat // i ≤ T.length ∧ T.take i = T'.take i}, fun b i => [(5, .int .i64 (i.1 : Nat))], fun b i => [], fun i => T.length - i.1, true⟩, ⟨⟨0, by omega, rfl⟩, ?_⟩, ?_⟩
  · cbv
    subst hA
    simp [-List.getD_eq_getElem?_getD, std_add, std_sub, std_mul, std_quo, std_rem, std_band, std_bor, std_bxor, std_shl, std_shr, std_eq, std_ne, std_lt, std_le, std_conv, std_not, std_beq, std_bne, std_ite, std_want, std_and2, std_sadd, std_seq, std_sne, std_slt, std_sle, std_sgt, std_sge, std_slen, std_sget, std_scut, std_ofNat, std_toNat, std_nsub, std_nadd, std_lenOf, std_nz, std_nneg, std_inb, std_upto, std_slt63, std_grow, std_imp, std_impN, std_tr, std_tb, std_ti, std_ts, std_tn, std_tp, std_nmin, std_nset, std_fset, std_makes, std_room, std_zeros, std_nilq, std_notq, std_eqi, std_eqn, std_eqb, std_eqs, std_eqv, std_cat, std_lst, std_rset, std_rcopy, std_shift, std_eqr, std_strOf, std_bytesOf, std_isB, std_zOf, zOf_int, std_isI, isI_int, std_getL, std_nmul, std_sOf, sOf_str, std_isS, isS_str, std_fadd, std_fsub, std_fav, std_fsv, std_feq, std_fne, std_flt, std_fle, std_fgt, std_fge, std_fOf, std_fTo, std_fTv]
  · rintro ⟨i, hx⟩
    have hi : i ≤ T.length := hx.1
    have hz : T.take i = T'.take i := hx.2
    have hT := hQ.1
    have hTl := hQ.2.1 i
    obtain ⟨L, hL⟩ : ∃ L, L = T.getD i [] := ⟨_, rfl⟩
    have hgL : T.getD i [] = L := hL.symm
    obtain ⟨M, hM⟩ : ∃ M, M = T'.getD i [] := ⟨_, rfl⟩
    have hgM : T'.getD i [] = M := hM.symm
    rw [hgL] at hTl
    have hne : ¬L = M → ¬T = T' := fun hn e => hn (by rw [hL, hM, e])
    rcases Nat.lt_or_ge i T.length with hlt | hge
    · obtain ⟨i', hi'⟩ : ∃ i', i' = i + 1 := ⟨_, rfl⟩
      cbv
      repeat' (first | with_reducible exact True.intro | with_reducible exact dr_ok hA (by kernel_rfl) | with_reducible refine And.intro ?_ ?_ | (intro hc; cbv))
      all_goals first
        | (fail_if_success (refine Exists.intro ?_ ?_)
           clear hz hx
           subst hA
           simp only [std_add, std_sub, std_mul, std_quo, std_rem, std_band, std_bor, std_bxor, std_shl, std_shr, std_eq, std_ne, std_lt, std_le, std_conv, std_not, std_beq, std_bne, std_ite, std_want, std_and2, std_sadd, std_seq, std_sne, std_slt, std_sle, std_sgt, std_sge, std_slen, std_sget, std_scut, std_ofNat, std_toNat, std_nsub, std_nadd, std_lenOf, std_nz, std_nneg, std_inb, std_upto, std_slt63, std_grow, std_imp, std_impN, std_tr, std_tb, std_ti, std_ts, std_tn, std_tp, std_nmin, std_nset, std_fset, std_makes, std_room, std_zeros, std_nilq, std_notq, std_eqi, std_eqn, std_eqb, std_eqs, std_eqv, std_cat, std_lst, std_rset, std_rcopy, std_shift, std_eqr, std_strOf, std_bytesOf, std_isB, std_zOf, zOf_int, std_isI, isI_int, std_getL, std_nmul, std_sOf, sOf_str, std_isS, isS_str, std_fadd, std_fsub, std_fav, std_fsv, std_feq, std_fne, std_flt, std_fle, std_fgt, std_fge, std_fOf, std_fTo, std_fTv, Int.ofNat_eq_natCast, Int.toNat_natCast, isRow_V, lstOf_V, isRow_T, lstOf_T] at *
           simp only [hgL, hgM] at *
           first
             | done
             | (constructor <;> omega)
             | exact ⟨⟨trivial, trivial⟩, hTl⟩
             | (exfalso; have := of_decide_eq_false hc; omega)
             | (symm
                rw [decide_eq_false_iff_not]
                rintro ⟨e1, e2⟩
                exact hne (of_decide_eq_false (nb_f hc)) e2))
        | (have h2 : L = M := by
             clear hz hx hne
             subst hA
             simp only [std_add, std_sub, std_mul, std_quo, std_rem, std_band, std_bor, std_bxor, std_shl, std_shr, std_eq, std_ne, std_lt, std_le, std_conv, std_not, std_beq, std_bne, std_ite, std_want, std_and2, std_sadd, std_seq, std_sne, std_slt, std_sle, std_sgt, std_sge, std_slen, std_sget, std_scut, std_ofNat, std_toNat, std_nsub, std_nadd, std_lenOf, std_nz, std_nneg, std_inb, std_upto, std_slt63, std_grow, std_imp, std_impN, std_tr, std_tb, std_ti, std_ts, std_tn, std_tp, std_nmin, std_nset, std_fset, std_makes, std_room, std_zeros, std_nilq, std_notq, std_eqi, std_eqn, std_eqb, std_eqs, std_eqv, std_cat, std_lst, std_rset, std_rcopy, std_shift, std_eqr, std_strOf, std_bytesOf, std_isB, std_zOf, zOf_int, std_isI, isI_int, std_getL, std_nmul, std_sOf, sOf_str, std_isS, isS_str, std_fadd, std_fsub, std_fav, std_fsv, std_feq, std_fne, std_flt, std_fle, std_fgt, std_fge, std_fOf, std_fTo, std_fTv, Int.ofNat_eq_natCast, Int.toNat_natCast, isRow_V, lstOf_V, isRow_T, lstOf_T] at *
             simp only [hgL, hgM] at *
             exact of_decide_eq_true (nb_t hc)
           refine ⟨⟨i', by omega, ?_⟩, ?_, show T.length - i' < T.length - i by omega⟩
           · rw [hi', ← take_snoc (d := []) hlt, ← take_snoc (d := []) (show i < T'.length by omega), hz, hgL, hgM, h2]
           · cbv
             subst hA
             simp [-List.getD_eq_getElem?_getD, std_add, std_sub, std_mul, std_quo, std_rem, std_band, std_bor, std_bxor, std_shl, std_shr, std_eq, std_ne, std_lt, std_le, std_conv, std_not, std_beq, std_bne, std_ite, std_want, std_and2, std_sadd, std_seq, std_sne, std_slt, std_sle, std_sgt, std_sge, std_slen, std_sget, std_scut, std_ofNat, std_toNat, std_nsub, std_nadd, std_lenOf, std_nz, std_nneg, std_inb, std_upto, std_slt63, std_grow, std_imp, std_impN, std_tr, std_tb, std_ti, std_ts, std_tn, std_tp, std_nmin, std_nset, std_fset, std_makes, std_room, std_zeros, std_nilq, std_notq, std_eqi, std_eqn, std_eqb, std_eqs, std_eqv, std_cat, std_lst, std_rset, std_rcopy, std_shift, std_eqr, std_strOf, std_bytesOf, std_isB, std_zOf, zOf_int, std_isI, isI_int, std_getL, std_nmul, std_sOf, sOf_str, std_isS, isS_str, std_fadd, std_fsub, std_fav, std_fsv, std_feq, std_fne, std_flt, std_fle, std_fgt, std_fge, std_fOf, std_fTo, std_fTv]
             exact w_succ' hi' (by omega))
        | trace_state
    · have hie : i = T.length := by omega
      rw [hie, List.take_length, hl, List.take_length] at hz
      cbv
      repeat' (first | with_reducible exact True.intro | with_reducible exact dr_ok hA (by kernel_rfl) | with_reducible refine And.intro ?_ ?_ | (intro hc; cbv))
      all_goals first
        | (exfalso; clear hz hx hne; subst hA; simp [-List.getD_eq_getElem?_getD, std_add, std_sub, std_mul, std_quo, std_rem, std_band, std_bor, std_bxor, std_shl, std_shr, std_eq, std_ne, std_lt, std_le, std_conv, std_not, std_beq, std_bne, std_ite, std_want, std_and2, std_sadd, std_seq, std_sne, std_slt, std_sle, std_sgt, std_sge, std_slen, std_sget, std_scut, std_ofNat, std_toNat, std_nsub, std_nadd, std_lenOf, std_nz, std_nneg, std_inb, std_upto, std_slt63, std_grow, std_imp, std_impN, std_tr, std_tb, std_ti, std_ts, std_tn, std_tp, std_nmin, std_nset, std_fset, std_makes, std_room, std_zeros, std_nilq, std_notq, std_eqi, std_eqn, std_eqb, std_eqs, std_eqv, std_cat, std_lst, std_rset, std_rcopy, std_shift, std_eqr, std_strOf, std_bytesOf, std_isB, std_zOf, zOf_int, std_isI, isI_int, std_getL, std_nmul, std_sOf, sOf_str, std_isS, isS_str, std_fadd, std_fsub, std_fav, std_fsv, std_feq, std_fne, std_flt, std_fle, std_fgt, std_fge, std_fOf, std_fTo, std_fTv] at hc; omega)
        | (exfalso; clear hz hx hne; subst hA; rename_i q0; simp [-List.getD_eq_getElem?_getD, std_add, std_sub, std_mul, std_quo, std_rem, std_band, std_bor, std_bxor, std_shl, std_shr, std_eq, std_ne, std_lt, std_le, std_conv, std_not, std_beq, std_bne, std_ite, std_want, std_and2, std_sadd, std_seq, std_sne, std_slt, std_sle, std_sgt, std_sge, std_slen, std_sget, std_scut, std_ofNat, std_toNat, std_nsub, std_nadd, std_lenOf, std_nz, std_nneg, std_inb, std_upto, std_slt63, std_grow, std_imp, std_impN, std_tr, std_tb, std_ti, std_ts, std_tn, std_tp, std_nmin, std_nset, std_fset, std_makes, std_room, std_zeros, std_nilq, std_notq, std_eqi, std_eqn, std_eqb, std_eqs, std_eqv, std_cat, std_lst, std_rset, std_rcopy, std_shift, std_eqr, std_strOf, std_bytesOf, std_isB, std_zOf, zOf_int, std_isI, isI_int, std_getL, std_nmul, std_sOf, sOf_str, std_isS, isS_str, std_fadd, std_fsub, std_fav, std_fsv, std_feq, std_fne, std_flt, std_fle, std_fgt, std_fge, std_fOf, std_fTo, std_fTv] at q0; omega)
        | (clear hx
           subst hA
           simp only [std_add, std_sub, std_mul, std_quo, std_rem, std_band, std_bor, std_bxor, std_shl, std_shr, std_eq, std_ne, std_lt, std_le, std_conv, std_not, std_beq, std_bne, std_ite, std_want, std_and2, std_sadd, std_seq, std_sne, std_slt, std_sle, std_sgt, std_sge, std_slen, std_sget, std_scut, std_ofNat, std_toNat, std_nsub, std_nadd, std_lenOf, std_nz, std_nneg, std_inb, std_upto, std_slt63, std_grow, std_imp, std_impN, std_tr, std_tb, std_ti, std_ts, std_tn, std_tp, std_nmin, std_nset, std_fset, std_makes, std_room, std_zeros, std_nilq, std_notq, std_eqi, std_eqn, std_eqb, std_eqs, std_eqv, std_cat, std_lst, std_rset, std_rcopy, std_shift, std_eqr, std_strOf, std_bytesOf, std_isB, std_zOf, zOf_int, std_isI, isI_int, std_getL, std_nmul, std_sOf, sOf_str, std_isS, isS_str, std_fadd, std_fsub, std_fav, std_fsv, std_feq, std_fne, std_flt, std_fle, std_fgt, std_fge, std_fOf, std_fTo, std_fTv, Int.ofNat_eq_natCast, Int.toNat_natCast, isRow_V, lstOf_V, isRow_T, lstOf_T] at *
           exact (decide_eq_true ⟨hm, hz⟩).symm)
        | trace_state
noncomputable def c_tSame : Ct := fun A args => match args with
  | [.agg [.int .i64 m, .slc n 1 f], .agg [.int .i64 m', .slc n' 1 f']] => some (some (A.tp fun _ => (isRow eEs [] 1 n f ∧ isRow eEs [] 1 n' f') ∧ tbQ (lstOf eEs [] 1 n f)), .bool (A.tb fun _ => decide (m = m' ∧ lstOf eEs [] 1 n f = lstOf eEs [] 1 n' f')))
  | _ => none
noncomputable def gv9 : Ar → Pu := addC 5 c_tShort (addC 9 c_tSame (gv8))
theorem gv9_ok : PuOk Tryz.prog gl0 (gv9 std) := by
  refine addC_ok (addC_ok (gv8_ok) ⟨_, Tryz.func9, rfl, by decide⟩ ?_) ⟨_, Tryz.func5, rfl, by decide⟩ ?_
  · intro args p r h hp
    unfold c_tSame at h
    split at h <;> cases h
    exact good_sv (good_tSame _ _ _ _ hp.2) ⟨⟨_, rfl, rfl, hp.1.1.sv, trivial⟩, ⟨_, rfl, rfl, hp.1.2.sv, trivial⟩, trivial⟩
  · intro args p r h hp
    unfold c_tShort at h
    split at h <;> cases h
    exact good_sv (good_tShort _ _ (by rw [lstOf_length hp.1]; exact hp.2.1) hp.2.2) ⟨⟨_, rfl, rfl, hp.1.sv, trivial⟩, trivial⟩
end Go.Vd

set_option linter.unusedVariables false
set_option linter.unusedSimpArgs false
set_option maxRecDepth 100000
set_option maxHeartbeats 8000000
namespace Go.Vd
open Go.Proofs
/-! ### Shards, parted at a key -/
theorem has_spec {L : List Ent} {s : Int} {r : List UInt8} (h : shR L = true) (hh : has L s r = true) : ∃ A x B, L = A ++ x :: B ∧ Sp A B s r ∧ x.s = s ∧ x.r = r ∧ eR x = true ∧ pos L s r = A.length := by
  have hasc := (ascB_iff L).1 (shR_asc h).1
  obtain ⟨hp, hk⟩ := has_pos hasc hh
  obtain ⟨k1, k2⟩ := kE_iff.1 hk
  have hpw := asc_pw.1 hasc
  have e0 : L = L.take (pos L s r) ++ L.getD (pos L s r) E0 :: L.drop (pos L s r + 1) := by
    rw [← getD_get hp, ← List.drop_eq_getElem_cons hp, List.take_append_drop]
  refine ⟨L.take (pos L s r), L.getD (pos L s r) E0, L.drop (pos L s r + 1), e0, ⟨fun a ha => hpw.1 a (List.mem_of_mem_take ha), fun b hb => hpw.1 b (List.mem_of_mem_drop hb), hpw.2.sublist (List.take_sublist _ _), hpw.2.sublist (List.drop_sublist _ _), fun a ha => ?_, fun b hb => ?_⟩, k1, k2, (hasc _ hp).1, by rw [List.length_take]; omega⟩
  · have h2 := hpw.2
    rw [e0] at h2
    have := (List.pairwise_append.1 h2).2.2 a ha _ (List.mem_cons_self ..)
    unfold ordE at this
    rw [k1, k2] at this
    exact this
  · have h2 := hpw.2
    rw [e0] at h2
    have := (List.pairwise_cons.1 (List.pairwise_append.1 h2).2.1).1 b hb
    unfold ordE at this
    rw [k1, k2] at this
    exact this
theorem Sp.hasno {A B : List Ent} {s : Int} {r : List UInt8} (h : Sp A B s r) : has (A ++ B) s r = false := by
  unfold has
  rw [List.any_eq_false]
  intro x hx
  rcases List.mem_append.1 hx with hx | hx
  · rw [h.kA hx]; simp
  · rw [h.kB hx]; simp
theorem Sp.ascAB {A B : List Ent} {s : Int} {r : List UInt8} (h : Sp A B s r) : ascP (A ++ B) := by
  rw [asc_pw]
  refine ⟨fun x hx => (List.mem_append.1 hx).elim (h.ra x) (h.rb x), List.pairwise_append.2 ⟨h.pa, h.pb, fun a ha b hb => ?_⟩⟩
  exact ordK_trans (h.la a ha) (h.lb b hb)
/-- What swapping comes to, in a shard that is right. -/
theorem sw_spec {L : List Ent} {z : Int} {e : Ent} (h : shR L = true) (hc : swC L z e = 0) : eR e = true ∧ has L e.s e.r = true ∧ (fnd L e.s e.r).st = z ∧ shR (swL L z e) = true ∧ (swL L z e).length = L.length ∧ fnd (swL L z e) e.s e.r = e ∧ has (swL L z e) e.s e.r = true ∧
    (∀ s r, ¬(e.s = s ∧ e.r = r) → fnd (swL L z e) s r = fnd L s r ∧ has (swL L z e) s r = has L s r) ∧ ∀ x, x ∈ swL L z e → x ∈ L ∨ x = e := by
  have hl := (shR_asc h).2
  have he : eR e = true := by
    cases he : eR e
    · rw [(swL_1 (by rw [he]; cases shR L <;> rfl)).2] at hc; cases hc
    · rfl
  have hg : (bif shR L then eR e else false) = true := by rw [h, he]; rfl
  have hh : has L e.s e.r = true := by
    cases hh : has L e.s e.r
    · rw [(swL_5 hg hh).2] at hc; cases hc
    · rfl
  obtain ⟨A, x, B, e0, hSp, k1, k2, k3, k4⟩ := has_spec h hh
  have hst : (L.getD (pos L e.s e.r) E0).st = z := by
    by_cases h3 : (L.getD (pos L e.s e.r) E0).st = z
    · exact h3
    · rw [(swL_8 hg hh h3).2] at hc; cases hc
  have hsw := (swL_0 hg hh hst).1
  rw [k4, e0, mid_set] at hsw
  have hf := hSp.fnd k1 k2
  have hx : (L.getD (pos L e.s e.r) E0) = x := by rw [k4, e0, mid_getD]
  have hlen : A.length + B.length < 128 := by rw [e0] at hl; simp at hl; omega
  have hm := mid_spec hSp he hlen
  rw [hx] at hst
  rw [e0]
  refine ⟨he, hf.2, by rw [hf.1]; exact hst, ?_, ?_, ?_, ?_, fun s r hn => ?_, fun y hy => ?_⟩
  · rw [hsw]; exact hm.1
  · rw [hsw]; simp
  · rw [hsw]; exact hm.2.2.1
  · rw [hsw]; exact hm.2.1
  · have hn2 : ¬(x.s = s ∧ x.r = r) := by rw [k1, k2]; exact hn
    have o1 := Sp.oth (A := A) (B := B) (s := 0) (r := []) hn
    have o2 := Sp.oth (A := A) (B := B) (s := 0) (r := []) hn2
    rw [hsw, o1.1, o1.2, o2.1, o2.2]
    exact ⟨rfl, rfl⟩
  · rw [hsw] at hy
    simp only [List.mem_append, List.mem_cons] at hy ⊢
    rcases hy with hy | hy | hy
    · exact .inl (.inl hy)
    · exact .inr hy
    · exact .inl (.inr (.inr hy))
theorem rm_spec {L : List Ent} {s : Int} {r : List UInt8} (h : shR L = true) (hh : has L s r = true) : rmC L s r = 0 ∧ shR (rmL L s r) = true ∧ (rmL L s r).length + 1 = L.length ∧ has (rmL L s r) s r = false ∧
    (∀ s' r', ¬(s = s' ∧ r = r') → fnd (rmL L s r) s' r' = fnd L s' r' ∧ has (rmL L s r) s' r' = has L s' r') ∧ ∀ x, x ∈ rmL L s r → x ∈ L := by
  have hl := (shR_asc h).2
  obtain ⟨A, x, B, e0, hSp, k1, k2, k3, k4⟩ := has_spec h hh
  have h1 := rm_0 h hh
  have h2 := h1.1
  rw [k4, e0, mid_rm] at h2
  rw [← e0] at h2
  have hlen : (A ++ B).length + 1 = L.length := by rw [e0]; simp; omega
  refine ⟨h1.2, ?_, ?_, ?_, fun s' r' hn => ?_, fun y hy => ?_⟩
  · rw [h2]; exact shR_yes (by omega) hSp.ascAB
  · rw [h2]; exact hlen
  · rw [h2]; exact hSp.hasno
  · have hn2 : ¬(x.s = s' ∧ x.r = r') := by rw [k1, k2]; exact hn
    have o2 := Sp.oth (A := A) (B := B) (s := 0) (r := []) hn2
    rw [h2, e0, o2.1, o2.2]
    exact ⟨rfl, rfl⟩
  · rw [h2] at hy
    rw [e0]
    simp only [List.mem_append, List.mem_cons] at hy ⊢
    rcases hy with hy | hy
    · exact .inl hy
    · exact .inr (.inr hy)
/-! ### Tables whose one shard is other -/
theorem getD_set {T : Tbl} {i : Nat} (hi : i < T.length) (L : List Ent) (j : Nat) : (T.set i L).getD j [] = if j = i then L else T.getD j [] := by
  rw [List.getD_eq_getElem?_getD, List.getD_eq_getElem?_getD, List.getElem?_set]
  by_cases h : i = j
  · subst h
    simp [hi]
  · rw [if_neg h, if_neg (fun e => h e.symm)]
theorem cnt_set {T : Tbl} {i : Nat} (hi : i < T.length) (L : List Ent) : cnt (T.set i L) + (T.getD i []).length = cnt T + L.length := by
  unfold cnt
  rw [List.set_eq_take_append_cons_drop, if_pos hi]
  have e0 : T = T.take i ++ T.getD i [] :: T.drop (i + 1) := by
    have : T[i] = T.getD i [] := by simp [List.getD_eq_getElem?_getD, hi]
    rw [← this, ← List.drop_eq_getElem_cons hi, List.take_append_drop]
  conv => rhs; rw [e0]
  simp only [List.map_append, List.map_cons, List.sum_append, List.sum_cons]
  omega
theorem shOk_of {m : Int} {T : Tbl} (h : tbR m T = true) {i : Nat} (hi : i < T.length) : shR (T.getD i []) = true ∧ ∀ x ∈ T.getD i [], shardI x.s x.r (T.length : Int) = (i : Int) := by
  unfold tbR at h
  simp only [Bool.and_eq_true, List.all_eq_true] at h
  have h2 := h.2.1 i (List.mem_range.2 hi)
  unfold shOk at h2
  simp only [Bool.and_eq_true, List.all_eq_true] at h2
  exact ⟨h2.1, fun x hx => of_decide_eq_true (h2.2 x hx)⟩
theorem tbR_set {m : Int} {T : Tbl} (h : tbR m T = true) {i : Nat} (hi : i < T.length) {L : List Ent} (h1 : shR L = true) (h2 : ∀ x ∈ L, shardI x.s x.r (T.length : Int) = (i : Int)) (h3 : (cnt (T.set i L) : Int) ≤ m) : tbR m (T.set i L) = true := by
  have h0 := h
  unfold tbR at h ⊢
  simp only [Bool.and_eq_true, List.all_eq_true, List.length_set] at h ⊢
  refine ⟨h.1, fun j hj => ?_, decide_eq_true h3⟩
  have hj := List.mem_range.1 hj
  unfold shOk
  rw [getD_set hi, List.length_set]
  by_cases e : j = i
  · subst e
    rw [if_pos rfl, h1, Bool.true_and, List.all_eq_true]
    exact fun x hx => decide_eq_true (h2 x hx)
  · rw [if_neg e]
    have := shOk_of h0 hj
    rw [this.1, Bool.true_and, List.all_eq_true]
    exact fun x hx => decide_eq_true (this.2 x hx)
theorem lk_set {T : Tbl} {i : Nat} (hi : i < T.length) (L : List Ent) (s : Int) (r : List UInt8) :
    shi (T.set i L) s r = shi T s r ∧ (¬shi T s r < 0 → shl (T.set i L) s r = if shi T s r = (i : Int) then L else shl T s r) := by
  have e0 : shi (T.set i L) s r = shi T s r := by unfold shi; rw [List.length_set]
  refine ⟨e0, fun h => ?_⟩
  unfold shl
  rw [e0, getD_set hi]
  by_cases e : shi T s r = (i : Int)
  · rw [if_pos e, if_pos (by omega)]
  · rw [if_neg e, if_neg (by omega)]
/-- Another key is looked for. -/
theorem lk_other {T : Tbl} {i : Nat} (hi : i < T.length) {L : List Ent} {s : Int} {r : List UInt8} (h : shi T s r = (i : Int) → fnd L s r = fnd (shl T s r) s r ∧ has L s r = has (shl T s r) s r) :
    lkE (T.set i L) s r = lkE T s r ∧ lkB (T.set i L) s r = lkB T s r := by
  obtain ⟨h1, h2⟩ := lk_set hi L s r
  by_cases h0 : shi T s r < 0
  · have a := lk_n (T := T) h0
    have b := lk_n (T := T.set i L) (by rw [h1]; exact h0)
    rw [a.1, a.2, b.1, b.2]
    exact ⟨rfl, rfl⟩
  · have a := lk_y (T := T) h0
    have b := lk_y (T := T.set i L) (by rw [h1]; exact h0)
    rw [a.1, a.2, b.1, b.2, h2 h0]
    by_cases e : shi T s r = (i : Int)
    · rw [if_pos e]; exact h e
    · rw [if_neg e]; exact ⟨rfl, rfl⟩
theorem lk_this {T : Tbl} {i : Nat} (hi : i < T.length) {L : List Ent} {s : Int} {r : List UInt8} (h : shi T s r = (i : Int)) : lkE (T.set i L) s r = fnd L s r ∧ lkB (T.set i L) s r = has L s r := by
  obtain ⟨h1, h2⟩ := lk_set hi L s r
  have h0 : ¬shi T s r < 0 := by omega
  have b := lk_y (T := T.set i L) (by rw [h1]; exact h0)
  rw [b.1, b.2, h2 h0, if_pos h]
  exact ⟨rfl, rfl⟩
/-! ### What a law of swaps asks -/
theorem tsw_spec {m : Int} {T : Tbl} {z : Int} {e : Ent} (h : tbR m T = true) (hc : tSwC m T z e = 0) :
    tHas m T e.s e.r = true ∧ (tFnd m T e.s e.r).st = z ∧ tbR m (tSwT m T z e) = true ∧ tFnd m (tSwT m T z e) e.s e.r = e ∧ tHas m (tSwT m T z e) e.s e.r = true ∧
    ∀ s r, ¬(e.s = s ∧ e.r = r) → tFnd m (tSwT m T z e) s r = tFnd m T s r ∧ tHas m (tSwT m T z e) s r = tHas m T s r := by
  have hok : okE m T e = true := by
    cases hok : okE m T e
    · rw [(tSw_1 (z := z) hok).2] at hc; cases hc
    · rfl
  have hin := shi_in hok
  obtain ⟨h1, h2⟩ := tSw_0 (z := z) hok
  rw [h2] at hc
  obtain ⟨i, hi⟩ : ∃ i : Nat, shi T e.s e.r = (i : Int) := ⟨(shi T e.s e.r).toNat, by omega⟩
  have hil : i < T.length := by omega
  have hL : shl T e.s e.r = T.getD i [] := by unfold shl; rw [hi]; rfl
  have hshi := shOk_of h hil
  rw [hL] at hc h1
  rw [hi] at h1
  simp only [Int.toNat_natCast] at h1
  obtain ⟨q1, q2, q3, q4, q5, q6, q7, q8, q9⟩ := sw_spec hshi.1 hc
  have hcs := cnt_set hil (swL (T.getD i []) z e)
  have hR : tbR m (T.set i (swL (T.getD i []) z e)) = true := tbR_set h hil q4 (fun x hx => by
    rcases q9 x hx with hx | rfl
    · exact hshi.2 x hx
    · exact hi) (by have := (tbR_cnt h).2.1; omega)
  rw [h1]
  have a := tf_y (s := e.s) (r := e.r) h
  have b := tf_y (s := e.s) (r := e.r) hR
  have c := lk_this (L := swL (T.getD i []) z e) hil hi
  have d := lk_y (T := T) (s := e.s) (r := e.r) (by omega)
  refine ⟨by rw [a.2, d.2, hL]; exact q2, by rw [a.1, d.1, hL]; exact q3, hR, by rw [b.1, c.1]; exact q6, by rw [b.2, c.2]; exact q7, fun s r hn => ?_⟩
  have a' := tf_y (s := s) (r := r) h
  have b' := tf_y (s := s) (r := r) hR
  have o := lk_other (T := T) (L := swL (T.getD i []) z e) (s := s) (r := r) hil (fun hs => by
    have : shl T s r = T.getD i [] := by unfold shl; rw [hs]; rfl
    rw [this]
    exact q8 s r hn)
  rw [b'.1, b'.2, a'.1, a'.2, o.1, o.2]
  exact ⟨rfl, rfl⟩
theorem tsw_no {m : Int} {T : Tbl} {z : Int} {e : Ent} (h : tbR m T = true) (hc : ¬tSwC m T z e = 0) : tSwT m T z e = T ∧ (eR e = true → tHas m T e.s e.r = true → ¬(tFnd m T e.s e.r).st = z) := by
  cases hok : okE m T e
  · refine ⟨(tSw_1 (z := z) hok).1, fun he => ?_⟩
    unfold okE at hok
    rw [h, he] at hok
    cases hok
  · have hin := shi_in hok
    obtain ⟨h1, h2⟩ := tSw_0 (z := z) hok
    rw [h2] at hc
    obtain ⟨i, hi⟩ : ∃ i : Nat, shi T e.s e.r = (i : Int) := ⟨(shi T e.s e.r).toNat, by omega⟩
    have hil : i < T.length := by omega
    have hL : shl T e.s e.r = T.getD i [] := by unfold shl; rw [hi]; rfl
    have hshi := shOk_of h hil
    rw [hL] at hc h1
    rw [hi] at h1
    simp only [Int.toNat_natCast] at h1
    have he := (okE_t hok).2
    have hg : (bif shR (T.getD i []) then eR e else false) = true := by rw [hshi.1, he]; rfl
    have a := tf_y (s := e.s) (r := e.r) h
    have d := lk_y (T := T) (s := e.s) (r := e.r) (by omega)
    have hsame : swL (T.getD i []) z e = T.getD i [] := by
      by_cases hh : has (T.getD i []) e.s e.r = true
      · by_cases hst : ((T.getD i []).getD (pos (T.getD i []) e.s e.r) E0).st = z
        · exact absurd (swL_0 hg hh hst).2 hc
        · exact (swL_8 hg hh hst).1
      · exact (swL_5 hg (by simpa using hh)).1
    refine ⟨by rw [h1, hsame, set_getD], fun _ hh hst => ?_⟩
    rw [a.2, d.2, hL] at hh
    rw [a.1, d.1, hL] at hst
    obtain ⟨A, x, B, e0, hSp, k1, k2, k3, k4⟩ := has_spec hshi.1 hh
    have hf := (hSp.fnd k1 k2).1
    rw [← e0] at hf
    refine hc (swL_0 hg hh ?_).2
    rw [k4, e0, mid_getD, ← hf]
    exact hst
theorem trt_spec {m : Int} {T : Tbl} {s : Int} {r : List UInt8} (h : tbR m T = true) (hc : tRtC m T s r = 0) :
    tbR m (tRtT m T s r) = true ∧ tHas m (tRtT m T s r) s r = false ∧ cnt (tRtT m T s r) + 1 = cnt T ∧
    ∀ s' r', ¬(s = s' ∧ r = r') → tFnd m (tRtT m T s r) s' r' = tFnd m T s' r' ∧ tHas m (tRtT m T s r) s' r' = tHas m T s' r' := by
  cases h1 : lkB T s r
  · rw [(tRt_5 h h1).2] at hc; cases hc
  cases h2 : stW (lkE T s r).st
  rotate_left
  · rw [(tRt_8 h h1 h2).2] at hc; cases hc
  have h3 := (tRt_0 h h1 h2).1
  have hin := lkB_in h1
  obtain ⟨i, hi⟩ : ∃ i : Nat, shi T s r = (i : Int) := ⟨(shi T s r).toNat, by omega⟩
  have hil : i < T.length := by omega
  have hL : shl T s r = T.getD i [] := by unfold shl; rw [hi]; rfl
  have hshi := shOk_of h hil
  have d := lk_y (T := T) (s := s) (r := r) (by omega)
  rw [d.2, hL] at h1
  rw [hL, hi] at h3
  simp only [Int.toNat_natCast] at h3
  obtain ⟨q1, q2, q3, q4, q5, q6⟩ := rm_spec hshi.1 h1
  have hcs := cnt_set hil (rmL (T.getD i []) s r)
  have hcn := (tbR_cnt h).2.1
  have hR : tbR m (T.set i (rmL (T.getD i []) s r)) = true := tbR_set h hil q2 (fun x hx => hshi.2 x (q6 x hx)) (by omega)
  rw [h3]
  have b := tf_y (s := s) (r := r) hR
  have c := lk_this (L := rmL (T.getD i []) s r) hil hi
  refine ⟨hR, by rw [b.2, c.2]; exact q4, by omega, fun s' r' hn => ?_⟩
  have a' := tf_y (s := s') (r := r') h
  have b' := tf_y (s := s') (r := r') hR
  have o := lk_other (T := T) (L := rmL (T.getD i []) s r) (s := s') (r := r') hil (fun hs => by
    have : shl T s' r' = T.getD i [] := by unfold shl; rw [hs]; rfl
    rw [this]
    exact q5 s' r' hn)
  rw [b'.1, b'.2, a'.1, a'.2, o.1, o.2]
  exact ⟨rfl, rfl⟩
theorem allT_len {m : Int} {T : Tbl} (h : tbR m T = true) : (allT m T).length = cnt T := by rw [all_y h, (srtE_sorts _).1, flat_len]
/-! ### What isn't too much stays so -/
theorem tbQ_iff {T : Tbl} : tbQ T ↔ T.length ≤ 1000000 ∧ ∀ L ∈ T, L.length ≤ 1000000 ∧ ∀ x ∈ L, enQ x := by
  constructor
  · rintro ⟨h1, h2, h3⟩
    refine ⟨h1, fun L hL => ?_⟩
    obtain ⟨i, hi, rfl⟩ := List.getElem_of_mem hL
    have e : T[i] = T.getD i [] := by simp [List.getD_eq_getElem?_getD, hi]
    rw [e]
    refine ⟨h2 i, fun x hx => ?_⟩
    obtain ⟨j, hj, rfl⟩ := List.getElem_of_mem hx
    rw [getD_get hj]
    exact h3 i j
  · rintro ⟨h1, h2⟩
    have h0 : ∀ i, ¬i < T.length → T.getD i [] = [] := fun i hi => by rw [List.getD_eq_getElem?_getD, List.getElem?_eq_none (by omega)]; rfl
    have hm : ∀ i, i < T.length → T.getD i [] ∈ T := fun i hi => by
      rw [List.getD_eq_getElem?_getD, List.getElem?_eq_getElem hi]
      exact List.getElem_mem hi
    refine ⟨h1, fun i => ?_, fun i j => ?_⟩
    · by_cases hi : i < T.length
      · exact (h2 _ (hm i hi)).1
      · rw [h0 i hi]; simp
    · by_cases hi : i < T.length
      · by_cases hj : j < (T.getD i []).length
        · exact (h2 _ (hm i hi)).2 _ (getD_mem hj)
        · rw [List.getD_eq_getElem?_getD, List.getElem?_eq_none (by omega)]; exact ⟨by decide, by decide, by decide, by decide⟩
      · rw [h0 i hi, List.getD_nil]; exact ⟨by decide, by decide, by decide, by decide⟩
theorem tbQ_set {T : Tbl} (h : tbQ T) {i : Nat} {L : List Ent} (h1 : L.length ≤ 1000000) (h2 : ∀ x ∈ L, enQ x) : tbQ (T.set i L) := by
  rw [tbQ_iff] at *
  refine ⟨by rw [List.length_set]; exact h.1, fun M hM => ?_⟩
  rcases List.mem_or_eq_of_mem_set hM with hM | rfl
  · exact h.2 M hM
  · exact ⟨h1, h2⟩
theorem shl_Q {T : Tbl} (h : tbQ T) (s : Int) (r : List UInt8) : (shl T s r).length ≤ 1000000 ∧ ∀ x ∈ shl T s r, enQ x := by
  unfold shl
  by_cases hi : (shi T s r).toNat < T.length
  · rw [tbQ_iff] at h
    exact h.2 _ (by rw [List.getD_eq_getElem?_getD, List.getElem?_eq_getElem hi]; exact List.getElem_mem hi)
  · rw [List.getD_eq_getElem?_getD, List.getElem?_eq_none (by omega)]
    exact ⟨by simp, fun x hx => by simp at hx⟩
theorem swL_mem' {L : List Ent} {z : Int} {e x : Ent} (hx : x ∈ swL L z e) : x ∈ L ∨ x = e := by
  unfold swL at hx
  split at hx
  · split at hx
    · split at hx
      · rcases List.mem_or_eq_of_mem_set hx with h | h
        · exact .inl h
        · exact .inr h
      · exact .inl hx
    · exact .inl hx
  · exact .inl hx
theorem swL_len' (L : List Ent) (z : Int) (e : Ent) : (swL L z e).length = L.length := by
  unfold swL
  split
  · split
    · split <;> simp
    · rfl
  · rfl
theorem insL_mem' {L : List Ent} {e x : Ent} (hx : x ∈ insL L e) : x ∈ L ∨ x = e := by
  unfold insL at hx
  split at hx
  · split at hx
    · exact .inl hx
    · split at hx
      · exact .inl hx
      · rcases List.mem_append.1 hx with hx | hx
        · rcases List.mem_append.1 hx with hx | hx
          · exact .inl (List.mem_of_mem_take hx)
          · exact .inr (List.mem_singleton.1 hx)
        · exact .inl (List.mem_of_mem_drop hx)
  · exact .inl hx
theorem insL_len' (L : List Ent) (e : Ent) : (insL L e).length ≤ max L.length 128 := by
  unfold insL
  split
  · rename_i h
    simp only [Bool.and_eq_true] at h
    have := (shR_asc h.1).2
    split
    · omega
    · split
      · omega
      · simp; omega
  · omega
theorem rmL_mem' {L : List Ent} {s : Int} {r : List UInt8} {x : Ent} (hx : x ∈ rmL L s r) : x ∈ L := by
  unfold rmL at hx
  split at hx
  · split at hx
    · rcases List.mem_append.1 hx with hx | hx
      · exact List.mem_of_mem_take hx
      · exact List.mem_of_mem_drop hx
    · exact hx
  · exact hx
theorem rmL_len' (L : List Ent) (s : Int) (r : List UInt8) : (rmL L s r).length ≤ L.length := by
  unfold rmL
  split
  · split
    · simp; omega
    · omega
  · omega
theorem tbQ_sw {m : Int} {T : Tbl} {z : Int} {e : Ent} (h : tbQ T) (he : enQ e) : tbQ (tSwT m T z e) := by
  have h2 := shl_Q h e.s e.r
  unfold tSwT
  split
  · exact tbQ_set h (by rw [swL_len']; exact h2.1) fun x hx => (swL_mem' hx).elim (h2.2 x) fun e => e ▸ he
  · exact h
theorem tbQ_ins {m : Int} {T : Tbl} {e : Ent} (h : tbQ T) (he : enQ e) : tbQ (tInsT m T e) := by
  have h2 := shl_Q h e.s e.r
  unfold tInsT
  split
  · split
    · exact h
    · split
      · exact h
      · exact tbQ_set h (by have := insL_len' (shl T e.s e.r) e; omega) fun x hx => (insL_mem' hx).elim (h2.2 x) fun e => e ▸ he
  · exact h
theorem tbQ_rt {m : Int} {T : Tbl} {s : Int} {r : List UInt8} (h : tbQ T) : tbQ (tRtT m T s r) := by
  have h2 := shl_Q h s r
  unfold tRtT
  split
  · split
    · split
      · exact h
      · exact tbQ_set h (by have := rmL_len' (shl T s r) s r; omega) fun x hx => h2.2 x (rmL_mem' hx)
    · exact h
  · exact h
end Go.Vd

set_option linter.unusedVariables false
set_option linter.unusedSimpArgs false
set_option maxRecDepth 100000
set_option maxHeartbeats 8000000
namespace Go.Vd
open Go.Proofs
theorem mem_flat {T : Tbl} {x : Ent} : x ∈ T.flatten ↔ ∃ i, i < T.length ∧ x ∈ T.getD i [] := by
  rw [List.mem_flatten]
  constructor
  · rintro ⟨L, hL, hx⟩
    obtain ⟨i, hi, rfl⟩ := List.getElem_of_mem hL
    exact ⟨i, hi, by rw [List.getD_eq_getElem?_getD, List.getElem?_eq_getElem hi]; exact hx⟩
  · rintro ⟨i, hi, hx⟩
    rw [List.getD_eq_getElem?_getD, List.getElem?_eq_getElem hi] at hx
    exact ⟨_, List.getElem_mem hi, hx⟩
theorem mem_shl {m : Int} {T : Tbl} (h : tbR m T = true) {x : Ent} (hx : x ∈ T.flatten) : ¬shi T x.s x.r < 0 ∧ x ∈ shl T x.s x.r ∧ eR x = true := by
  obtain ⟨i, hi, hm⟩ := mem_flat.1 hx
  have h2 := shOk_of h hi
  have h3 : shi T x.s x.r = (i : Int) := h2.2 x hm
  refine ⟨by omega, ?_, (asc_pw.1 ((ascB_iff _).1 (shR_asc h2.1).1)).1 x hm⟩
  unfold shl
  rw [h3]
  exact hm
theorem shl_mem {T : Tbl} {s : Int} {r : List UInt8} (h : ¬shi T s r < 0) {x : Ent} (hx : x ∈ shl T s r) : x ∈ T.flatten := by
  unfold shl at hx
  rw [mem_flat]
  by_cases hi : (shi T s r).toNat < T.length
  · exact ⟨_, hi, hx⟩
  · rw [List.getD_eq_getElem?_getD, List.getElem?_eq_none (by omega)] at hx
    simp at hx
theorem has_iff {L : List Ent} {s : Int} {r : List UInt8} : has L s r = true ↔ ∃ x ∈ L, x.s = s ∧ x.r = r := by
  unfold has
  rw [List.any_eq_true]
  exact ⟨fun ⟨x, hx, hk⟩ => ⟨x, hx, kE_iff.1 hk⟩, fun ⟨x, hx, hk⟩ => ⟨x, hx, kE_iff.2 hk⟩⟩
theorem lkB_iff {m : Int} {T : Tbl} (h : tbR m T = true) {s : Int} {r : List UInt8} : lkB T s r = true ↔ ∃ x ∈ T.flatten, x.s = s ∧ x.r = r := by
  constructor
  · intro hb
    by_cases h0 : shi T s r < 0
    · rw [(lk_n h0).2] at hb; cases hb
    · rw [(lk_y h0).2, has_iff] at hb
      obtain ⟨x, hx, hk⟩ := hb
      exact ⟨x, shl_mem h0 hx, hk⟩
  · rintro ⟨x, hx, rfl, rfl⟩
    obtain ⟨h0, h1, _⟩ := mem_shl h hx
    rw [(lk_y h0).2, has_iff]
    exact ⟨x, h1, rfl, rfl⟩
/-! ### Lists in order are told by their members -/
theorem asc_uniq : ∀ {L M : List Ent}, (L.Pairwise fun x y => ordE x y < 0) → (M.Pairwise fun x y => ordE x y < 0) → (∀ x, x ∈ L ↔ x ∈ M) → L = M
  | [], [], _, _, _ => rfl
  | [], y :: M, _, _, h => by have := (h y).2 (List.mem_cons_self ..); simp at this
  | x :: L, [], _, _, h => by have := (h x).1 (List.mem_cons_self ..); simp at this
  | x :: L, y :: M, h1, h2, h => by
    have a := List.pairwise_cons.1 h1
    have b := List.pairwise_cons.1 h2
    have irr : ∀ z : Ent, ¬ordE z z < 0 := fun z h => by
      unfold ordE at h
      rw [ordK_eq, if_pos ⟨rfl, rfl⟩] at h
      exact absurd h (by decide)
    have exy : x = y := by
      rcases List.mem_cons.1 ((h x).1 (List.mem_cons_self ..)) with e | hx
      · exact e
      · rcases List.mem_cons.1 ((h y).2 (List.mem_cons_self ..)) with e | hy
        · exact e.symm
        · exact absurd (ordK_trans (b.1 x hx) (a.1 y hy)) (irr y)
    subst exy
    congr 1
    refine asc_uniq a.2 b.2 fun z => ⟨fun hz => ?_, fun hz => ?_⟩
    · rcases List.mem_cons.1 ((h z).1 (List.mem_cons_of_mem _ hz)) with e | hz'
      · subst e; exact absurd (a.1 z hz) (irr z)
      · exact hz'
    · rcases List.mem_cons.1 ((h z).2 (List.mem_cons_of_mem _ hz)) with e | hz'
      · subst e; exact absurd (b.1 z hz) (irr z)
      · exact hz'
/-- Entries of unlike keys. -/
def unl (x y : Ent) : Prop := ¬(x.s = y.s ∧ x.r = y.r)
theorem unl_symm {x y : Ent} (h : unl x y) : unl y x := fun e => h ⟨e.1.symm, e.2.symm⟩
theorem unl_lt {x y : Ent} (h : ordE x y < 0) : unl x y := fun e => by
  unfold ordE at h
  rw [e.1, e.2, ordK_eq, if_pos ⟨rfl, rfl⟩] at h
  exact absurd h (by decide)
theorem flat_unl {m : Int} {T : Tbl} (h : tbR m T = true) : T.flatten.Pairwise unl := by
  rw [List.pairwise_flatten]
  refine ⟨fun L hL => ?_, ?_⟩
  · obtain ⟨i, hi, rfl⟩ := List.getElem_of_mem hL
    have h2 := shOk_of h hi
    rw [List.getD_eq_getElem?_getD, List.getElem?_eq_getElem hi] at h2
    exact (asc_pw.1 ((ascB_iff _).1 (shR_asc h2.1).1)).2.imp unl_lt
  · rw [List.pairwise_iff_getElem]
    intro i j hi hj hij x hx y hy e
    have h2 := shOk_of h hi
    have h3 := shOk_of h hj
    rw [List.getD_eq_getElem?_getD, List.getElem?_eq_getElem hi] at h2
    rw [List.getD_eq_getElem?_getD, List.getElem?_eq_getElem hj] at h3
    have a := h2.2 x hx
    have b := h3.2 y hy
    rw [e.1, e.2] at a
    omega
theorem srt_asc {m : Int} {T : Tbl} (h : tbR m T = true) : ((allT m T).Pairwise fun x y => ordE x y < 0) ∧ ∀ x, x ∈ allT m T ↔ x ∈ T.flatten := by
  rw [all_y h]
  obtain ⟨h1, h2, h3⟩ := srtE_sorts T.flatten
  refine ⟨?_, fun x => h2.mem_iff⟩
  have hu : (srtE T.flatten).Pairwise unl := (h2.pairwise_iff fun {x y} => unl_symm).2 (flat_unl h)
  rw [List.pairwise_iff_getElem] at hu ⊢
  intro i j hi hj hij
  have a := hu i j hi hj hij
  have b := h3 i j hij (by omega)
  rw [getD_get hi] at a ⊢
  rw [getD_get hj] at a ⊢
  unfold ltOf at b
  have c : ¬ordE ((srtE T.flatten).getD j E0) ((srtE T.flatten).getD i E0) < 0 := by simpa using b
  exact ordK_gt c fun e => a ⟨e.1.symm, e.2.symm⟩
/-! ### Putting -/
theorem tbR_m {m : Int} {T : Tbl} (h : tbR m T = true) : m ≤ 128 := by
  unfold tbR szR at h
  simp only [Bool.and_eq_true, decide_eq_true_eq] at h
  omega
theorem ins_ok {L : List Ent} {e : Ent} (h1 : shR L = true) (h2 : eR e = true) (h3 : has L e.s e.r = false) (h4 : L.length < 128) : insC L e = 0 := (insL_0 (by rw [h1, h2]; rfl) h3 (by omega)).2
theorem tins_put {m : Int} {T : Tbl} {e : Ent} (h : tbR m T = true) (h2 : eR e = true) (h3 : lkB T e.s e.r = false) (h4 : ¬m ≤ (cnt T : Int)) :
    tInsC m T e = 0 ∧ tbR m (tInsT m T e) = true ∧ cnt (tInsT m T e) = cnt T + 1 ∧ lkE (tInsT m T e) e.s e.r = e ∧ lkB (tInsT m T e) e.s e.r = true ∧ (∀ x, x ∈ (tInsT m T e).flatten ↔ x ∈ T.flatten ∨ x = e) ∧
    ∀ s r, ¬(e.s = s ∧ e.r = r) → lkE (tInsT m T e) s r = lkE T s r ∧ lkB (tInsT m T e) s r = lkB T s r := by
  have ho : okE m T e = true := by unfold okE; rw [h, h2]; rfl
  obtain ⟨e1, e2⟩ := tIns_0 ho h3 h4
  have hin := shi_in ho
  obtain ⟨i, hi⟩ : ∃ i : Nat, shi T e.s e.r = (i : Int) := ⟨(shi T e.s e.r).toNat, by omega⟩
  have hil : i < T.length := by omega
  have hL : shl T e.s e.r = T.getD i [] := by unfold shl; rw [hi]; rfl
  have hshi := shOk_of h hil
  have d := lk_y (T := T) (s := e.s) (r := e.r) (by omega)
  rw [d.2, hL] at h3
  rw [hL, hi] at e1
  rw [hL] at e2
  simp only [Int.toNat_natCast] at e1
  have hm := (tbR_cnt h)
  have hm2 := tbR_m h
  have hle : (T.getD i []).length ≤ cnt T := by
    have := cnt_set hil []
    simp only [List.length_nil] at this
    omega
  have hc := ins_ok hshi.1 h2 h3 (by omega)
  obtain ⟨_, _, _, _, _, hSp, hI, hLL⟩ := ins_spec hc
  obtain ⟨A, hA⟩ : ∃ A, A = (T.getD i []).take (pos (T.getD i []) e.s e.r) := ⟨_, rfl⟩
  obtain ⟨B, hB⟩ : ∃ B, B = (T.getD i []).drop (pos (T.getD i []) e.s e.r) := ⟨_, rfl⟩
  rw [← hA, ← hB] at hSp hI hLL
  have hlen : A.length + B.length = (T.getD i []).length := ((congrArg List.length hLL).trans (List.length_append ..)).symm
  have hmid := mid_spec hSp h2 (by omega)
  have hcs := cnt_set hil (insL (T.getD i []) e)
  have hil2 : (insL (T.getD i []) e).length = (T.getD i []).length + 1 := by rw [hI, List.length_append, List.length_cons]; omega
  have hmem : ∀ x, x ∈ insL (T.getD i []) e ↔ x ∈ T.getD i [] ∨ x = e := fun x => by
    rw [hI]
    conv => rhs; rw [hLL]
    simp only [List.mem_append, List.mem_cons]
    constructor
    · rintro (h | h | h)
      · exact .inl (.inl h)
      · exact .inr h
      · exact .inl (.inr h)
    · rintro ((h | h) | h)
      · exact .inl h
      · exact .inr (.inr h)
      · exact .inr (.inl h)
  have hR : tbR m (T.set i (insL (T.getD i []) e)) = true := tbR_set h hil (by rw [hI]; exact hmid.1) (fun x hx => by
    rcases (hmem x).1 hx with hx | rfl
    · exact hshi.2 x hx
    · exact hi) (by omega)
  have c := lk_this (L := insL (T.getD i []) e) hil hi
  rw [e1]
  refine ⟨e2.trans hc, hR, by omega, by rw [c.1, hI]; exact hmid.2.2.1, by rw [c.2, hI]; exact hmid.2.1, fun x => ?_, fun s r hn => ?_⟩
  · rw [mem_flat, mem_flat, List.length_set]
    constructor
    · rintro ⟨j, hj, hx⟩
      rw [getD_set hil] at hx
      split at hx
      · rcases (hmem x).1 hx with hx | hx
        · exact .inl ⟨i, hil, hx⟩
        · exact .inr hx
      · exact .inl ⟨j, hj, hx⟩
    · rintro (⟨j, hj, hx⟩ | rfl)
      · refine ⟨j, hj, ?_⟩
        rw [getD_set hil]
        split
        · rename_i e; subst e; exact (hmem x).2 (.inl hx)
        · exact hx
      · exact ⟨i, hil, by rw [getD_set hil, if_pos rfl]; exact (hmem x).2 (.inr rfl)⟩
  · refine lk_other (T := T) (L := insL (T.getD i []) e) (s := s) (r := r) hil fun hs => ?_
    have e3 : shl T s r = T.getD i [] := by unfold shl; rw [hs]; rfl
    have o := Sp.oth (A := A) (B := B) (s := 0) (r := []) hn
    have q1 : fnd (T.getD i []) s r = fnd (A ++ B) s r := congrArg (fun l => fnd l s r) hLL
    have q2 : has (T.getD i []) s r = has (A ++ B) s r := congrArg (fun l => has l s r) hLL
    rw [e3, hI, q1, q2]
    exact o
end Go.Vd

set_option linter.unusedVariables false
set_option linter.unusedSimpArgs false
set_option maxRecDepth 100000
set_option maxHeartbeats 8000000
namespace Go.Vd
open Go.Proofs
def insP (L : List Ent) (x : Ent) : List Ent := L.take (pos L x.s x.r) ++ x :: L.drop (pos L x.s x.r)
def lstT (T : Tbl) : List Ent := T.flatten.foldl insP []
def bldT (n : Nat) (L : List Ent) : Tbl := (List.range n).map fun i => L.filter (inSh n i)
def rtR (m : Int) (T : Tbl) : Bool := szR m (T.length : Int) && (decide (((lstT T).length : Int) ≤ m) && (shR (lstT T) && decide (T = bldT T.length (lstT T))))
theorem insP_mem {L : List Ent} {x y : Ent} : y ∈ insP L x ↔ y ∈ L ∨ y = x := by
  unfold insP
  conv => rhs; rw [← List.take_append_drop (pos L x.s x.r) L]
  simp only [List.mem_append, List.mem_cons]
  constructor
  · rintro (h | h | h)
    · exact .inl (.inl h)
    · exact .inr h
    · exact .inl (.inr h)
  · rintro ((h | h) | h)
    · exact .inl h
    · exact .inr (.inr h)
    · exact .inr (.inl h)
theorem insP_len (L : List Ent) (x : Ent) : (insP L x).length = L.length + 1 := by
  unfold insP
  have := pos_le L x.s x.r
  simp
  omega
theorem foldP_mem {M : List Ent} : ∀ {L : List Ent} {y : Ent}, y ∈ M.foldl insP L ↔ y ∈ L ∨ y ∈ M := by
  induction M with
  | nil => intro L y; simp
  | cons x M ih =>
    intro L y
    rw [List.foldl_cons, ih, insP_mem, List.mem_cons]
    constructor
    · rintro ((h | h) | h)
      · exact .inl h
      · exact .inr (.inl h)
      · exact .inr (.inr h)
    · rintro (h | h | h)
      · exact .inl (.inl h)
      · exact .inl (.inr h)
      · exact .inr h
theorem foldP_len {M : List Ent} : ∀ {L : List Ent}, (M.foldl insP L).length = L.length + M.length := by
  induction M with
  | nil => intro L; simp
  | cons x M ih => intro L; rw [List.foldl_cons, ih, insP_len, List.length_cons]; omega
theorem lstT_mem {T : Tbl} {y : Ent} : y ∈ lstT T ↔ y ∈ T.flatten := by unfold lstT; rw [foldP_mem]; simp
theorem lstT_len (T : Tbl) : (lstT T).length = cnt T := by unfold lstT; rw [foldP_len, flat_len]; simp
/-- In order, and of no key twice. -/
def lt_asc (L : List Ent) : Prop := L.Pairwise fun x y => ordE x y < 0
theorem insP_asc {L : List Ent} {x : Ent} (h : lt_asc L) (hu : ∀ y ∈ L, unl y x) : lt_asc (insP L x) := by
  have hA : ∀ a ∈ L.take (pos L x.s x.r), ordE a x < 0 := fun a ha => by
    obtain ⟨i, hi, rfl⟩ := List.getElem_of_mem ha
    rw [List.length_take] at hi
    rw [List.getElem_take, getD_get (by omega)]
    have := pos_lt (L := L) (s := x.s) (r := x.r) (t := i) (by omega)
    unfold ltK at this
    exact of_decide_eq_true this
  have hB : ∀ b ∈ L.drop (pos L x.s x.r), ordE x b < 0 := fun b hb => by
    have hp : pos L x.s x.r < L.length := by
      rcases Nat.lt_or_ge (pos L x.s x.r) L.length with h | h
      · exact h
      · rw [List.drop_eq_nil_of_le h] at hb; simp at hb
    have h0 := pos_ge hp
    unfold ltK at h0
    have h1 : ordE x (L.getD (pos L x.s x.r) E0) < 0 := ordK_gt (of_decide_eq_false h0) fun e => hu _ (getD_mem hp) e
    rw [List.drop_eq_getElem_cons hp, getD_get hp] at hb
    rcases List.mem_cons.1 hb with rfl | hb
    · exact h1
    · have h2 := h
      unfold lt_asc at h2
      rw [← List.take_append_drop (pos L x.s x.r) L, List.drop_eq_getElem_cons hp, getD_get hp] at h2
      exact ordK_trans h1 ((List.pairwise_cons.1 (List.pairwise_append.1 h2).2.1).1 b hb)
  unfold insP lt_asc
  rw [List.pairwise_append]
  refine ⟨h.sublist (List.take_sublist _ _), List.pairwise_cons.2 ⟨hB, h.sublist (List.drop_sublist _ _)⟩, fun a ha b hb => ?_⟩
  rcases List.mem_cons.1 hb with rfl | hb
  · exact hA a ha
  · exact ordK_trans (hA a ha) (hB b hb)
theorem foldP_asc {M : List Ent} : ∀ {L : List Ent}, lt_asc L → M.Pairwise unl → (∀ y ∈ L, ∀ x ∈ M, unl y x) → lt_asc (M.foldl insP L) := by
  induction M with
  | nil => intro L h _ _; exact h
  | cons x M ih =>
    intro L h hM hu
    have hM2 := List.pairwise_cons.1 hM
    rw [List.foldl_cons]
    refine ih (insP_asc h fun y hy => hu y hy x (List.mem_cons_self ..)) hM2.2 fun y hy z hz => ?_
    rcases insP_mem.1 hy with hy | rfl
    · exact hu y hy z (List.mem_cons_of_mem _ hz)
    · exact hM2.1 z hz
theorem lstT_asc {m : Int} {T : Tbl} (h : tbR m T = true) : lt_asc (lstT T) := foldP_asc List.Pairwise.nil (flat_unl h) fun y hy => by simp at hy
theorem lstT_all {m : Int} {T : Tbl} (h : tbR m T = true) : lstT T = allT m T := by
  have a := srt_asc h
  exact asc_uniq (lstT_asc h) a.1 fun x => by rw [lstT_mem, a.2]
theorem shR_iff {L : List Ent} : shR L = true ↔ L.length ≤ 128 ∧ (∀ x ∈ L, eR x = true) ∧ lt_asc L := by
  unfold shR
  rw [Bool.and_eq_true, decide_eq_true_eq, ascB_iff, asc_pw]
  rfl
theorem lstT_R {m : Int} {T : Tbl} (h : tbR m T = true) : shR (lstT T) = true := by
  rw [shR_iff]
  refine ⟨by rw [lstT_len]; exact (tbR_cnt h).1, fun x hx => (mem_shl h (lstT_mem.1 hx)).2.2, lstT_asc h⟩
/-! ### The table of a list -/
theorem bldT_len (n : Nat) (L : List Ent) : (bldT n L).length = n := by unfold bldT; simp
theorem bldT_get {n i : Nat} (L : List Ent) (hi : i < n) : (bldT n L).getD i [] = L.filter (inSh n i) := by
  unfold bldT
  rw [List.getD_eq_getElem?_getD, List.getElem?_map, List.getElem?_range hi]
  rfl
theorem bld_uniq {m : Int} {T : Tbl} {L : List Ent} (h : tbR m T = true) (ha : lt_asc L) (hm : ∀ x, x ∈ L ↔ x ∈ T.flatten) : bldT T.length L = T := by
  apply List.ext_getElem
  · exact bldT_len _ _
  · intro i h1 h2
    have e1 : (bldT T.length L)[i] = (bldT T.length L).getD i [] := by rw [List.getD_eq_getElem?_getD, List.getElem?_eq_getElem h1]; rfl
    have e2 : T[i] = T.getD i [] := by rw [List.getD_eq_getElem?_getD, List.getElem?_eq_getElem h2]; rfl
    rw [e1, e2, bldT_get L h2]
    have hs := shOk_of h h2
    refine asc_uniq (ha.sublist List.filter_sublist) (asc_pw.1 ((ascB_iff _).1 (shR_asc hs.1).1)).2 fun x => ?_
    rw [List.mem_filter, hm]
    constructor
    · rintro ⟨hx, hk⟩
      obtain ⟨h3, h4, _⟩ := mem_shl h hx
      have hk := of_decide_eq_true hk
      unfold shl at h4
      have : shi T x.s x.r = (i : Int) := hk
      rw [this] at h4
      exact h4
    · intro hx
      exact ⟨mem_flat.2 ⟨i, h2, hx⟩, decide_eq_true (hs.2 x hx)⟩
theorem rtR_eq (m : Int) (T : Tbl) : rtR m T = tbR m T := by
  rw [Bool.eq_iff_iff]
  constructor
  · intro h
    unfold rtR at h
    simp only [Bool.and_eq_true, decide_eq_true_eq] at h
    obtain ⟨h1, h2, h3, h4⟩ := h
    have h5 := shR_iff.1 h3
    unfold tbR
    rw [h1, Bool.true_and, Bool.and_eq_true, List.all_eq_true]
    refine ⟨fun i hi => ?_, decide_eq_true (by rw [← lstT_len]; exact h2)⟩
    have hi := List.mem_range.1 hi
    have e : T.getD i [] = (lstT T).filter (inSh T.length i) := by
      exact (congrArg (fun t : Tbl => t.getD i []) h4).trans (bldT_get _ hi)
    unfold shOk
    rw [e, Bool.and_eq_true, shR_iff, List.all_eq_true]
    refine ⟨⟨Nat.le_trans (List.length_filter_le _ _) h5.1, fun x hx => h5.2.1 x (List.mem_filter.1 hx).1, h5.2.2.sublist List.filter_sublist⟩, fun x hx => (List.mem_filter.1 hx).2⟩
  · intro h
    have h0 := h
    unfold tbR at h
    simp only [Bool.and_eq_true] at h
    unfold rtR
    rw [h.1, lstT_len, h.2.2, lstT_R h0, bld_uniq h0 (lstT_asc h0) fun x => lstT_mem]
    simp
end Go.Vd

set_option linter.unusedVariables false
set_option linter.unusedSimpArgs false
set_option maxRecDepth 100000
set_option maxHeartbeats 8000000
namespace Go.Vd
open Go.Proofs
theorem eR_sh {e : Ent} {n : Nat} (h : eR e = true) (hn : 1 ≤ n ∧ n ≤ 16) : 0 ≤ shardI e.s e.r (n : Int) ∧ shardI e.s e.r (n : Int) < (n : Int) := by
  have h3 := eR_key h
  unfold shardI
  rw [if_pos ⟨h3, by omega, by omega⟩]
  have := Nat.mod_lt (fnv (decs 6 e.s.toNat ++ e.r)) (show 0 < ((n : Nat) : Int).toNat by omega)
  omega
theorem swL_iff {L : List Ent} {z : Int} {e : Ent} (h : shR L = true) (hc : swC L z e = 0) (x : Ent) : x ∈ swL L z e ↔ (x ∈ L ∧ unl x e) ∨ x = e := by
  obtain ⟨he, hh, hst, _⟩ := sw_spec h hc
  obtain ⟨A, y, B, e0, hSp, k1, k2, k3, k4⟩ := has_spec h hh
  have hg : (bif shR L then eR e else false) = true := by rw [h, he]; rfl
  have hst2 : (L.getD (pos L e.s e.r) E0).st = z := by
    rw [k4, e0, mid_getD]
    have hf := (hSp.fnd k1 k2).1
    rw [← e0] at hf
    rw [← hf]; exact hst
  have hsw := (swL_0 hg hh hst2).1
  rw [k4, e0, mid_set] at hsw
  rw [← e0] at hsw
  rw [hsw, e0]
  simp only [List.mem_append, List.mem_cons]
  have hA : ∀ a ∈ A, unl a e := fun a ha => unl_lt (hSp.la a ha)
  have hB : ∀ b ∈ B, unl b e := fun b hb => unl_symm (unl_lt (hSp.lb b hb))
  constructor
  · rintro (h | h | h)
    · exact .inl ⟨.inl h, hA x h⟩
    · exact .inr h
    · exact .inl ⟨.inr (.inr h), hB x h⟩
  · rintro (⟨h | h | h, hu⟩ | h)
    · exact .inl h
    · subst h; exact absurd ⟨k1, k2⟩ hu
    · exact .inr (.inr h)
    · exact .inr (.inl h)
theorem rmL_iff {L : List Ent} {s : Int} {r : List UInt8} (h : shR L = true) (hh : has L s r = true) (x : Ent) : x ∈ rmL L s r ↔ x ∈ L ∧ ¬(x.s = s ∧ x.r = r) := by
  obtain ⟨A, y, B, e0, hSp, k1, k2, k3, k4⟩ := has_spec h hh
  have h2 := (rm_0 h hh).1
  rw [k4, e0, mid_rm] at h2
  rw [← e0] at h2
  rw [h2, e0]
  simp only [List.mem_append, List.mem_cons]
  have hA : ∀ a ∈ A, ¬(a.s = s ∧ a.r = r) := fun a ha e => by have := hSp.kA ha; rw [kE_iff.2 e] at this; cases this
  have hB : ∀ b ∈ B, ¬(b.s = s ∧ b.r = r) := fun b hb e => by have := hSp.kB hb; rw [kE_iff.2 e] at this; cases this
  constructor
  · rintro (h | h)
    · exact ⟨.inl h, hA x h⟩
    · exact ⟨.inr (.inr h), hB x h⟩
  · rintro ⟨h | h | h, hu⟩
    · exact .inl h
    · subst h; exact absurd ⟨k1, k2⟩ hu
    · exact .inr h
theorem shR_lt {L : List Ent} (h : shR L = true) : lt_asc L := (shR_iff.1 h).2.2
theorem has_lst {m : Int} {T : Tbl} (h : tbR m T = true) (s : Int) (r : List UInt8) : has (lstT T) s r = lkB T s r := by
  rw [Bool.eq_iff_iff, has_iff, lkB_iff h]
  exact ⟨fun ⟨x, hx, hk⟩ => ⟨x, lstT_mem.1 hx, hk⟩, fun ⟨x, hx, hk⟩ => ⟨x, lstT_mem.2 hx, hk⟩⟩
theorem fnd_uniq {L : List Ent} (h : shR L = true) {x : Ent} (hx : x ∈ L) : fnd L x.s x.r = x := by
  obtain ⟨A, y, B, e0, hSp, k1, k2, k3, k4⟩ := has_spec h (has_iff.2 ⟨x, hx, rfl, rfl⟩)
  have hf := (hSp.fnd k1 k2).1
  rw [← e0] at hf
  rw [hf]
  rw [e0] at hx
  simp only [List.mem_append, List.mem_cons] at hx
  rcases hx with hx | hx | hx
  · have := hSp.kA hx; rw [kE_iff.2 ⟨rfl, rfl⟩] at this; cases this
  · exact hx.symm
  · have := hSp.kB hx; rw [kE_iff.2 ⟨rfl, rfl⟩] at this; cases this
theorem fnd_mem {L : List Ent} {s : Int} {r : List UInt8} (h : has L s r = true) : fnd L s r ∈ L ∧ (fnd L s r).s = s ∧ (fnd L s r).r = r := by
  have h2 := h
  unfold has at h2
  rw [List.any_eq_true] at h2
  obtain ⟨x, hx, hk⟩ := h2
  have : (L.find? (kE s r)).isSome := by rw [List.find?_isSome]; exact ⟨x, hx, hk⟩
  obtain ⟨y, hy⟩ := Option.isSome_iff_exists.1 this
  have e : fnd L s r = y := by unfold fnd; rw [hy]; rfl
  rw [e]
  exact ⟨List.mem_of_find?_eq_some hy, kE_iff.1 (List.find?_some hy)⟩
theorem fnd_lst {m : Int} {T : Tbl} (h : tbR m T = true) {s : Int} {r : List UInt8} (hb : lkB T s r = true) : fnd (lstT T) s r = lkE T s r := by
  have hh : has (lstT T) s r = true := by rw [has_lst h]; exact hb
  obtain ⟨h1, h2, h3⟩ := fnd_mem hh
  obtain ⟨q1, q2, q3⟩ := mem_shl h (lstT_mem.1 h1)
  rw [h2, h3] at q1 q2
  have d := lk_y (T := T) q1
  rw [d.1]
  have hs := shOk_of h (i := (shi T s r).toNat) (by have := lkB_in hb; omega)
  have := fnd_uniq (L := shl T s r) hs.1 q2
  rw [h2, h3] at this
  exact this.symm
theorem okE_of {m : Int} {T : Tbl} {e : Ent} (h : tbR m T = true) (he : eR e = true) : okE m T e = true := by unfold okE; rw [h, he]; rfl
theorem len_n {m : Int} {T : Tbl} (h : tbR m T = true) : 1 ≤ T.length ∧ T.length ≤ 16 := by have := tbR_cnt h; omega
/-- The reference's insert. -/
theorem ref_ins {m : Int} {T : Tbl} {e : Ent} (h : tbR m T = true) (he : eR e = true) (hb : lkB T e.s e.r = false) (hc : ¬m ≤ (cnt T : Int)) :
    bldT T.length (insL (lstT T) e) = tInsT m T e ∧ tInsC m T e = 0 ∧ ∀ x ∈ insL (lstT T) e, x ∈ T.flatten ∨ x = e := by
  obtain ⟨a1, a2, a3, a4, a5, a6, _⟩ := tins_put h he hb hc
  have hR := lstT_R h
  have hh : has (lstT T) e.s e.r = false := by rw [has_lst h]; exact hb
  have hc0 := ins_ok hR he hh (by rw [lstT_len]; have := tbR_m h; omega)
  obtain ⟨_, _, _, _, _, hSp, hI, hLL⟩ := ins_spec hc0
  have hmem : ∀ x, x ∈ insL (lstT T) e ↔ x ∈ T.flatten ∨ x = e := fun x => by
    rw [← lstT_mem, hI]
    conv => rhs; rw [hLL]
    simp only [List.mem_append, List.mem_cons]
    constructor
    · rintro (h | h | h)
      · exact .inl (.inl h)
      · exact .inr h
      · exact .inl (.inr h)
    · rintro ((h | h) | h)
      · exact .inl h
      · exact .inr (.inr h)
      · exact .inr (.inl h)
  have hl : (tInsT m T e).length = T.length := by
    rw [(tIns_0 (okE_of h he) hb hc).1, List.length_set]
  refine ⟨?_, a1, fun x hx => (hmem x).1 hx⟩
  rw [← hl]
  refine bld_uniq a2 ?_ fun x => by rw [hmem, a6]
  rw [hI]
  exact (asc_pw.1 (hSp.asc he rfl rfl)).2
/-- The reference's swap. -/
theorem ref_sw0 {m : Int} {T : Tbl} {z : Int} {e : Ent} (h : tbR m T = true) : swC (lstT T) z e = tSwC m T z e := by
  have hR := lstT_R h
  cases he : eR e
  · rw [(swL_1 (by rw [he]; cases shR (lstT T) <;> rfl)).2, (tSw_1 (z := z) (by unfold okE; rw [he]; cases tbR m T <;> rfl)).2]
  have hok := okE_of h he
  have hin := shi_in hok
  rw [(tSw_0 (z := z) hok).2]
  have hs := shOk_of h (i := (shi T e.s e.r).toNat) (by omega)
  have d := lk_y (T := T) (s := e.s) (r := e.r) (by omega)
  have key : ∀ L, shR L = true → swC L z e = if has L e.s e.r = true then (if (fnd L e.s e.r).st = z then 0 else 8) else 5 := fun L hL => by
    have hg : (bif shR L then eR e else false) = true := by rw [hL, he]; rfl
    cases hh : has L e.s e.r
    · rw [(swL_5 hg hh).2]; rfl
    · obtain ⟨A, y, B, e0, hSp, k1, k2, k3, k4⟩ := has_spec hL hh
      have hf := (hSp.fnd k1 k2).1
      rw [← e0] at hf
      have hst : L.getD (pos L e.s e.r) E0 = fnd L e.s e.r := by rw [hf, k4, e0, mid_getD]
      by_cases hq : (fnd L e.s e.r).st = z
      · rw [(swL_0 hg hh (by rw [hst]; exact hq)).2]; simp [hq]
      · rw [(swL_8 hg hh (by rw [hst]; exact hq)).2]; simp [hq]
  rw [key _ hR, key (shl T e.s e.r) hs.1, has_lst h, ← d.2, ← d.1]
  cases hb : lkB T e.s e.r
  · rfl
  · rw [fnd_lst h hb]
theorem tSw_len {m : Int} {T : Tbl} {z : Int} {e : Ent} : (tSwT m T z e).length = T.length := by
  unfold tSwT
  split
  · rw [List.length_set]
  · rfl
theorem ref_sw {m : Int} {T : Tbl} {z : Int} {e : Ent} (h : tbR m T = true) (hc : tSwC m T z e = 0) : bldT T.length (swL (lstT T) z e) = tSwT m T z e ∧ ∀ x ∈ swL (lstT T) z e, x ∈ T.flatten ∨ x = e := by
  have hR := lstT_R h
  have hc' := hc
  rw [← ref_sw0 h] at hc'
  obtain ⟨_, _, s3, _⟩ := tsw_spec h hc
  have hok : okE m T e = true := by
    cases hok : okE m T e
    · rw [(tSw_1 (z := z) hok).2] at hc; cases hc
    · rfl
  have hin := shi_in hok
  obtain ⟨e1, e2⟩ := tSw_0 (z := z) hok
  have hil : (shi T e.s e.r).toNat < T.length := by omega
  have hs := shOk_of h hil
  rw [e2] at hc
  refine ⟨?_, fun x hx => (swL_mem' hx).imp_left lstT_mem.1⟩
  rw [← tSw_len (m := m) (T := T) (z := z) (e := e)]
  refine bld_uniq s3 (shR_lt (sw_spec hR hc').2.2.2.1) fun x => ?_
  rw [swL_iff hR hc', lstT_mem, e1, mem_flat, mem_flat, List.length_set]
  have hi2 : ((shi T e.s e.r).toNat : Int) = shi T e.s e.r := by omega
  constructor
  · rintro (⟨⟨j, hj, hx⟩, hu⟩ | rfl)
    · refine ⟨j, hj, ?_⟩
      rw [getD_set hil]
      split
      · rename_i ej
        subst ej
        exact (swL_iff hs.1 hc x).2 (.inl ⟨hx, hu⟩)
      · exact hx
    · exact ⟨_, hil, by rw [getD_set hil, if_pos rfl]; exact (swL_iff hs.1 hc x).2 (.inr rfl)⟩
  · rintro ⟨j, hj, hx⟩
    rw [getD_set hil] at hx
    split at hx
    · rename_i ej
      subst ej
      rcases (swL_iff hs.1 hc x).1 hx with ⟨hx, hu⟩ | hx
      · exact .inl ⟨⟨_, hj, hx⟩, hu⟩
      · exact .inr hx
    · rename_i ej
      refine .inl ⟨⟨j, hj, hx⟩, fun hk => ej ?_⟩
      have h2 := (shOk_of h hj).2 x hx
      rw [hk.1, hk.2] at h2
      have h3 : shi T e.s e.r = (j : Int) := h2
      omega
theorem tRt_len {m : Int} {T : Tbl} {s : Int} {r : List UInt8} : (tRtT m T s r).length = T.length := by
  unfold tRtT
  split
  · split
    · split
      · rfl
      · rw [List.length_set]
    · rfl
  · rfl
theorem ref_rm {m : Int} {T : Tbl} {s : Int} {r : List UInt8} (h : tbR m T = true) (h1 : lkB T s r = true) (h2 : stW (lkE T s r).st = false) : bldT T.length (rmL (lstT T) s r) = tRtT m T s r ∧ tRtC m T s r = 0 ∧ ∀ x ∈ rmL (lstT T) s r, x ∈ T.flatten := by
  have hR := lstT_R h
  have hh : has (lstT T) s r = true := by rw [has_lst h]; exact h1
  obtain ⟨e1, e2⟩ := tRt_0 h h1 h2
  have hin := lkB_in h1
  have hil : (shi T s r).toNat < T.length := by omega
  have hs := shOk_of h hil
  have d := lk_y (T := T) (s := s) (r := r) (by omega)
  have hb := h1
  rw [d.2] at hb
  have hc : tRtC m T s r = 0 := by rw [e2]; exact (rm_spec (L := shl T s r) hs.1 hb).1
  obtain ⟨s1, _, _, _⟩ := trt_spec h hc
  refine ⟨?_, hc, fun x hx => lstT_mem.1 (rmL_mem' hx)⟩
  rw [← tRt_len (m := m) (T := T) (s := s) (r := r)]
  refine bld_uniq s1 (shR_lt (rm_spec hR hh).2.1) fun x => ?_
  rw [rmL_iff hR hh, lstT_mem, e1, mem_flat, mem_flat, List.length_set]
  have hi2 : ((shi T s r).toNat : Int) = shi T s r := by omega
  constructor
  · rintro ⟨⟨j, hj, hx⟩, hu⟩
    refine ⟨j, hj, ?_⟩
    rw [getD_set hil]
    split
    · rename_i ej
      subst ej
      exact (rmL_iff (L := shl T s r) hs.1 hb x).2 ⟨hx, hu⟩
    · exact hx
  · rintro ⟨j, hj, hx⟩
    rw [getD_set hil] at hx
    split at hx
    · rename_i ej
      subst ej
      obtain ⟨hx, hu⟩ := (rmL_iff (L := shl T s r) hs.1 hb x).1 hx
      exact ⟨⟨_, hj, hx⟩, hu⟩
    · rename_i ej
      refine ⟨⟨j, hj, hx⟩, fun hk => ej ?_⟩
      have h2 := (shOk_of h hj).2 x hx
      rw [hk.1, hk.2] at h2
      have h3 : shi T s r = (j : Int) := h2
      omega
end Go.Vd

