/- The wire's functions: a frame passes. -/
import Derived.Test.YtpkpbmpfmglbaacVdR1
set_option linter.unusedVariables false
set_option linter.unusedSimpArgs false
set_option maxRecDepth 100000
set_option maxHeartbeats 2000000
namespace Go.Vd
open Go.Proofs
noncomputable def c_wplace : Ct := fun A args => match args with
  | [.agg [.slc n 1 f], .int .i64 z] => some (some (A.tp fun _ => isRow eBs [] 1 n f), .tup [.int .i64 (A.ti fun _ => if wErr (lstOf eBs [] 1 n f).length z = 0 then z.tmod (lstOf eBs [] 1 n f).length else 0), .int .i64 (A.ti fun _ => wErr (lstOf eBs [] 1 n f).length z)])
  | _ => none
noncomputable def c_wwrong : Ct := fun A args => match args with
  | [.agg [.slc n 1 f], .int .i64 z] => some (some (A.tp fun _ => isRow eBs [] 1 n f), .int .i64 (A.ti fun _ => wErr (lstOf eBs [] 1 n f).length z))
  | _ => none
noncomputable def c_wPut : Ct := fun A args => match args with
  | [.agg [.slc n 1 f], .slc m 1 g] => some (some (A.tp fun _ => isRow eBs [] 1 n f ∧ n ≤ 1000000 ∧ bsList (lstOf eBs [] 1 n f) ∧ isRow eB 0 1 m g ∧ m ≤ 1000000), .tup [sW A fun _ => wPutL (lstOf eBs [] 1 n f) (lstOf eB 0 1 m g), .int .i64 (A.ti fun _ => wPutE (lstOf eBs [] 1 n f).length)])
  | _ => none
noncomputable def c_rwPut : Ct := fun A args => match args with
  | [.agg [.slc n 1 f], .slc m 1 g] => some (some (A.tp fun _ => isRow eBs [] 1 n f ∧ n ≤ 1000000 ∧ isRow eB 0 1 m g), .tup [sW A fun _ => wPutL (lstOf eBs [] 1 n f) (lstOf eB 0 1 m g), .int .i64 (A.ti fun _ => wPutE (lstOf eBs [] 1 n f).length)])
  | _ => none
noncomputable def gw3 : Ar → Pu := addC 33 c_wplace (addC 35 c_wwrong (addC 20 c_wPut (addC 21 c_rwPut (gw2))))
theorem gw3_ok : PuOk Try.prog gl0 (gw3 std) := by
  refine addC_ok (addC_ok (addC_ok (addC_ok (gw2_ok) ⟨_, Try.func21, rfl, by decide⟩ ?_) ⟨_, Try.func20, rfl, by decide⟩ ?_) ⟨_, Try.func35, rfl, by decide⟩ ?_) ⟨_, Try.func33, rfl, by decide⟩ ?_
  · intro args p r h hp
    unfold c_rwPut at h
    split at h <;> cases h
    exact good_sv (good_rwPut _ _ (by rw [lstOf_length hp.1]; exact hp.2.1)) ⟨⟨_, rfl, hp.1.sv, trivial⟩, hp.2.2.sv, trivial⟩
  · intro args p r h hp
    unfold c_wPut at h
    split at h <;> cases h
    exact good_sv (good_wPut _ _ (by rw [lstOf_length hp.1]; exact hp.2.1) hp.2.2.1 (by rw [lstOf_length hp.2.2.2.1]; exact hp.2.2.2.2)) ⟨⟨_, rfl, hp.1.sv, trivial⟩, hp.2.2.2.1.sv, trivial⟩
  · intro args p r h hp
    unfold c_wwrong at h
    split at h <;> cases h
    exact good_sv (good_wwrong _ _) ⟨⟨_, rfl, hp.sv, trivial⟩, rfl, trivial⟩
  · intro args p r h hp
    unfold c_wplace at h
    split at h <;> cases h
    exact good_sv (good_wplace _ _) ⟨⟨_, rfl, hp.sv, trivial⟩, rfl, trivial⟩
noncomputable def iW : Nat → Option Func := addI 34 Try.f34 noI
theorem iW_ok : InOk Try.prog iW := addI_ok noI_ok Try.func34 (by kernel_rfl)
def wPassL (L : List (List UInt8)) (z : Int) : List (List UInt8) := if wErr L.length z = 0 then L.eraseIdx (wAt L.length z) else L
def wPassB (L : List (List UInt8)) (z : Int) : List UInt8 := if wErr L.length z = 0 then L.getD (wAt L.length z) [] else []
theorem wPass_no {L : List (List UInt8)} {z : Int} (h : ¬wErr L.length z = 0) : wPassL L z = L ∧ wPassB L z = [] := ⟨if_neg h, if_neg h⟩
theorem wPass_yes {L : List (List UInt8)} {z : Int} (h : wErr L.length z = 0) : ∃ k : Nat, k < L.length ∧ z.tmod L.length = k ∧ wPassL L z = L.eraseIdx k ∧ wPassB L z = L.getD k [] := by
  have h1 := wErr_ok h
  have h2 := wAt_lt h1.2.2 h1.2.1
  exact ⟨_, h2.1, h2.2.symm, if_pos h, if_pos h⟩
theorem nil_cell : ∀ j, j < 1 → Ceq (getAt [SV.nils] j) (getAt (eBs std fun _ => ([] : List UInt8)) j) := by
  intro j hj
  obtain rfl : j = 0 := by omega
  exact Ceq.nils _ _
theorem erase_row {L : List (List UInt8)} {k m n p : Nat} (hk : k < L.length) (hm : m = k + (L.length - (k + 1))) (hn : n = L.length - 1) (hp : p = L.length - n) :
    Reps eBs [] 1 m (shiftS (rcopyS (rcopyS (rowF eBs [] std fun _ => L) k (L.length - (k + 1)) (shiftS (rowF eBs [] std fun _ => L) (k + 1))) n p (fun _ => getAt [SV.nils])) 0) (L.eraseIdx k) := by
  have R1 := (Reps.lit (enc := eBs) (d := []) (k := 1) L).shift (m := L.length - (k + 1)) (k + 1) (by omega)
  have R2 := (Reps.lit (enc := eBs) (d := []) (k := 1) L).rcopy R1 k (by omega)
  have R3 := R2.rcopy (Reps.fill (enc := eBs) (d := []) (k := 1) (n := p) (g := fun _ => getAt [SV.nils]) (x := []) nil_cell (fun i => rfl)) n (by omega)
  have R4 := R3.shift (m := m) 0 (by omega)
  refine R4.congr rfl ?_
  rw [List.take_of_length_le (l := L.drop (k + 1)) (by simp)]
  have hl : (L.take k ++ L.drop (k + 1)).length = m := by simp; omega
  have hnm : n = m := by omega
  rw [List.eraseIdx_eq_take_drop_succ, hnm, List.drop_zero, List.append_assoc, ← hl, List.take_left, List.take_left]
theorem good_wPass (z : Int) (L : List (List UInt8)) (hL : L.length ≤ 1000000) (hb : bsList L) : GoodP Try.prog gl0 22 [sW std fun _ => L, .int .i64 z] (.tup [sW std fun _ => wPassL L z, rowS eB 0 1 std fun _ => wPassB L z, .int .i64 (std.ti fun _ => wErr L.length z)]) := by
  refine fn_sound' (T := seatT) (G := gw3) (X := noX) seatT_ok gw3_ok noX_ok iW_ok mixed Try.func22 (.none) (fun A => [sW A fun _ => L, .int .i64 z]) (fun A => .tup [sW A fun _ => wPassL L z, rowS eB 0 1 A fun _ => wPassB L z, .int .i64 (A.ti fun _ => wErr L.length z)]) fun A hA => ?_
  cbv
  repeat' (first | with_reducible exact True.intro | with_reducible exact dr_ok hA (by kernel_rfl) | with_reducible refine And.intro ?_ ?_ | (intro hc; cbv))
  all_goals (subst hA; simp [-List.getD_eq_getElem?_getD, std_add, std_sub, std_mul, std_quo, std_rem, std_band, std_bor, std_bxor, std_shl, std_shr, std_eq, std_ne, std_lt, std_le, std_conv, std_not, std_beq, std_bne, std_ite, std_want, std_and2, std_sadd, std_seq, std_sne, std_slt, std_sle, std_sgt, std_sge, std_slen, std_sget, std_scut, std_ofNat, std_toNat, std_nsub, std_nadd, std_lenOf, std_nz, std_nneg, std_inb, std_upto, std_slt63, std_grow, std_imp, std_impN, std_tr, std_tb, std_ti, std_ts, std_tn, std_tp, std_nmin, std_makes, std_room, std_zeros, std_nilq, std_notq, std_eqi, std_eqn, std_eqb, std_eqs, std_eqv, std_cat, std_lst, std_rset, std_rcopy, std_shift, std_eqr, std_strOf, std_bytesOf, std_isB, strOf_lit, lstOf_lit inj_eB, lstOf_lit inj_eZ, lstOf_lit inj_eBs, lstOf_lit inj_eS, isRow_lit, isB_lit, isRow_nil, lstOf_nil inj_eB, lstOf_nil inj_eZ, lstOf_nil inj_eBs, lstOf_nil inj_eS] at *)
  all_goals by_cases e : wErr L.length z = 0
  all_goals first
    | exact ⟨hL, hb⟩
    | contradiction
    | (have h1 := wPass_no e
       first
         | (rw [h1.1]; done)
         | (rw [h1.1]; (exact (Reps.lit L).eqr))
         | (rw [h1.2]; rfl)
         | (rw [h1.2]; (exact Reps.nil.eqr)))
    | (obtain ⟨k, hk, hz, hA, hB⟩ := wPass_yes e
       have e1 : (if wErr L.length z = 0 then z.tmod (L.length : Int) else 0) = (k : Int) := by rw [if_pos e]; exact hz
       have w1 : IntKind.i64.wrap ((k : Int) + 1) = (k : Int) + 1 := w64 (by omega)
       have h2 : ((k : Int) + 1).toNat = k + 1 := by omega
       (try simp only [e1, w1] at hc)
       (try simp only [e1, w1, hA, hB, Int.toNat_natCast, h2])
       (first
         | omega
         | (constructor <;> omega)
         | rfl
         | exact (Reps.lit _).eqr
         | (rw [List.length_eraseIdx_of_lt hk]; omega)
         | exact eqr_of (erase_row hk rfl (by omega) rfl) (by rw [List.length_eraseIdx_of_lt hk]; omega) rfl
         | trace_state))
end Go.Vd
