/- A transaction's step: which events are right, and from which entries. -/
import Derived.Test.YtcjogfdlpoablaaDoorVdC1
set_option linter.unusedVariables false
set_option linter.unusedSimpArgs false
set_option maxRecDepth 100000
set_option maxHeartbeats 4000000
namespace Go.Vd
open Go.Proofs
def evK (v : Int) : Int := if v = 1 then 1 else if v = 2 then 2 else if v = 3 then 3 else if v = 5 then 7 else 0
def evO (v : Int) : Bool := decide (v = 1) || (decide (v = 2) || (decide (v = 3) || decide (v = 5)))
def dRR (d : Dl) : Bool := dR d.k d.am d.s d.pan d.r d.code
def vR (v : Int) (d : Dl) : Bool :=
  if v = 4 then decide (d.k = 0) && (decide (d.pan = []) && (decide (d.am = 0) && (decide (d.code = []) && keyOk d.s d.r)))
  else evO v && (decide (d.k = evK v) && dRR d)
def rF (e : Ent) (s : Int) (r : List UInt8) : Bool := decide (e = E0) || (eR e && (decide (e.s = s) && decide (e.r = r)))
theorem not8 {a b c d e f g h : Prop} (H : a → b → c → d → e → f → g → ¬h) : ¬a ∨ ¬b ∨ ¬c ∨ ¬d ∨ ¬e ∨ ¬f ∨ ¬g ∨ ¬h := by
  by_cases ha : a <;> by_cases hb : b <;> by_cases hc : c <;> by_cases hd : d <;> by_cases he : e <;> by_cases hf : f <;> by_cases hg : g <;> simp [ha, hb, hc, hd, he, hf, hg]
  exact H ha hb hc hd he hf hg
theorem good_cDeal (v : Int) : GoodP Tryd.prog gl0 113 [.int .i64 v] (.tup [.int .i64 (std.ti fun _ => evK v), .bool (std.tb fun _ => evO v)]) := by
  refine fn_sound' (T := seatT) (G := noC) (X := noX) seatT_ok noC_ok noX_ok noI_ok mixed Tryd.func113 (.one) (fun A => [.int .i64 v]) (fun A => .tup [.int .i64 (A.ti fun _ => evK v), .bool (A.tb fun _ => evO v)]) fun A hA => ?_
  cbv
  repeat' (first | with_reducible exact True.intro | with_reducible exact dr_ok hA (by kernel_rfl) | with_reducible refine And.intro ?_ ?_ | (intro hc; cbv))
  all_goals (subst hA; simp [std_add, std_sub, std_mul, std_quo, std_rem, std_band, std_bor, std_bxor, std_shl, std_shr, std_eq, std_ne, std_lt, std_le, std_conv, std_not, std_beq, std_bne, std_ite, std_want, std_and2, std_sadd, std_seq, std_sne, std_slt, std_sle, std_sgt, std_sge, std_slen, std_sget, std_scut, std_ofNat, std_toNat, std_nsub, std_nadd, std_lenOf, std_nz, std_nneg, std_inb, std_upto, std_slt63, std_grow, std_imp, std_impN, std_tr, std_tb, std_ti, std_ts, std_tn, std_tp, std_nmin, std_makes, std_room, std_zeros, std_nilq, std_notq, std_eqi, std_eqn, std_eqb, std_eqs, std_eqv, std_cat, std_lst, std_rset, std_rcopy, std_shift, std_eqr, std_strOf, std_bytesOf, std_isB, std_zOf, zOf_int, std_isI, isI_int, std_getL, std_nmul, std_sOf, sOf_str, std_isS, isS_str] at *)
  all_goals first
    | (subst_vars; simp_all [evK, evO]; done)
    | (simp [evK, evO, *]; done)
    | contradiction
    | trace_state
noncomputable def c_cDeal : Ct := fun A args => match args with
  | [.int .i64 v] => some (none, .tup [.int .i64 (A.ti fun _ => evK v), .bool (A.tb fun _ => evO v)])
  | _ => none
noncomputable def gc3 : Ar → Pu := addC 113 c_cDeal (gc2)
theorem gc3_ok : PuOk Tryd.prog gl0 (gc3 std) := by
  refine addC_ok (gc2_ok) ⟨_, Tryd.func113, rfl, by decide⟩ ?_
  · intro args p r h hp
    unfold c_cDeal at h
    split at h <;> cases h
    exact good_cDeal _
theorem good_cRight (v k am s : Int) (pan r code : List UInt8) (hp : pan.length ≤ 100000) (hr : r.length ≤ 1000000) (hcc : code.length ≤ 1000000) : GoodP Tryd.prog gl0 56 [.agg [.int .i64 v, .int .i64 k, .str pan, .int .u64 am, .int .u32 s, .str r, .str code]] (.bool (std.tb fun _ => vR v ⟨k, pan, am, s, r, code⟩)) := by
  refine fn_sound' (T := seatT) (G := gc3) (X := noX) seatT_ok gc3_ok noX_ok noI_ok mixed Tryd.func56 (.one) (fun A => [.agg [.int .i64 v, .int .i64 k, .str pan, .int .u64 am, .int .u32 s, .str r, .str code]]) (fun A => .bool (A.tb fun _ => vR v ⟨k, pan, am, s, r, code⟩)) fun A hA => ?_
  cbv
  repeat' (first | with_reducible exact True.intro | with_reducible exact dr_ok hA (by kernel_rfl) | with_reducible refine And.intro ?_ ?_ | (intro hc; cbv))
  all_goals (subst hA; try simp [std_add, std_sub, std_mul, std_quo, std_rem, std_band, std_bor, std_bxor, std_shl, std_shr, std_eq, std_ne, std_lt, std_le, std_conv, std_not, std_beq, std_bne, std_ite, std_want, std_and2, std_sadd, std_seq, std_sne, std_slt, std_sle, std_sgt, std_sge, std_slen, std_sget, std_scut, std_ofNat, std_toNat, std_nsub, std_nadd, std_lenOf, std_nz, std_nneg, std_inb, std_upto, std_slt63, std_grow, std_imp, std_impN, std_tr, std_tb, std_ti, std_ts, std_tn, std_tp, std_nmin, std_makes, std_room, std_zeros, std_nilq, std_notq, std_eqi, std_eqn, std_eqb, std_eqs, std_eqv, std_cat, std_lst, std_rset, std_rcopy, std_shift, std_eqr, std_strOf, std_bytesOf, std_isB, std_zOf, zOf_int, std_isI, isI_int, std_getL, std_nmul, std_sOf, sOf_str, std_isS, isS_str] at *)
  all_goals first
    | (intro h1 h2; exact ⟨⟨h1, h2⟩, hp, hr, hcc⟩)
    | (unfold vR; rw [if_pos hc, Bool.eq_iff_iff]; simp [and_assoc]; done)
    | (unfold vR dRR; rw [if_neg hc, Bool.eq_iff_iff]; simp [and_assoc]; done)
    | trace_state
theorem good_cFrom (s st am tr ca s2 : Int) (r pan code r2 : List UInt8) (hp : pan.length ≤ 100000) (hcc : code.length ≤ 1000000) : GoodP Tryd.prog gl0 107 [.agg [.int .u32 s, .str r, .int .i64 st, .str pan, .int .u64 am, .str code, .int .i64 tr, .int .i64 ca], .agg [.int .u32 s2, .str r2]] (.bool (std.tb fun _ => rF ⟨s, r, st, pan, am, code, tr, ca⟩ s2 r2)) := by
  refine fn_sound' (T := seatT) (G := gc3) (X := noX) seatT_ok gc3_ok noX_ok noI_ok mixed Tryd.func107 (.one) (fun A => [.agg [.int .u32 s, .str r, .int .i64 st, .str pan, .int .u64 am, .str code, .int .i64 tr, .int .i64 ca], .agg [.int .u32 s2, .str r2]]) (fun A => .bool (A.tb fun _ => rF ⟨s, r, st, pan, am, code, tr, ca⟩ s2 r2)) fun A hA => ?_
  cbv
  repeat' (first | with_reducible exact True.intro | with_reducible exact dr_ok hA (by kernel_rfl) | with_reducible refine And.intro ?_ ?_ | (intro hc; cbv))
  all_goals (subst hA; try simp [std_add, std_sub, std_mul, std_quo, std_rem, std_band, std_bor, std_bxor, std_shl, std_shr, std_eq, std_ne, std_lt, std_le, std_conv, std_not, std_beq, std_bne, std_ite, std_want, std_and2, std_sadd, std_seq, std_sne, std_slt, std_sle, std_sgt, std_sge, std_slen, std_sget, std_scut, std_ofNat, std_toNat, std_nsub, std_nadd, std_lenOf, std_nz, std_nneg, std_inb, std_upto, std_slt63, std_grow, std_imp, std_impN, std_tr, std_tb, std_ti, std_ts, std_tn, std_tp, std_nmin, std_makes, std_room, std_zeros, std_nilq, std_notq, std_eqi, std_eqn, std_eqb, std_eqs, std_eqv, std_cat, std_lst, std_rset, std_rcopy, std_shift, std_eqr, std_strOf, std_bytesOf, std_isB, std_zOf, zOf_int, std_isI, isI_int, std_getL, std_nmul, std_sOf, sOf_str, std_isS, isS_str] at *)
  all_goals first
    | (intro h1; exact ⟨h1, hp, hcc⟩)
    | (intro h1; exact ⟨h1, fun h2 => ⟨h1, h2⟩⟩)
    | (intro h; exact not8 h)
    | (unfold rF; rw [Bool.eq_iff_iff]; simp [E0, and_assoc]; done)
    | trace_state
noncomputable def c_cRight : Ct := fun A args => match args with
  | [.agg [.int .i64 v, .int .i64 k, .str pan, .int .u64 am, .int .u32 s, .str r, .str code]] => some (some (A.tp fun _ => pan.length ≤ 100000 ∧ r.length ≤ 1000000 ∧ code.length ≤ 1000000), .bool (A.tb fun _ => vR v ⟨k, pan, am, s, r, code⟩))
  | _ => none
noncomputable def c_cFrom : Ct := fun A args => match args with
  | [.agg [.int .u32 s, .str r, .int .i64 st, .str pan, .int .u64 am, .str code, .int .i64 tr, .int .i64 ca], .agg [.int .u32 s2, .str r2]] => some (some (A.tp fun _ => pan.length ≤ 100000 ∧ code.length ≤ 1000000), .bool (A.tb fun _ => rF ⟨s, r, st, pan, am, code, tr, ca⟩ s2 r2))
  | _ => none
noncomputable def gc4 : Ar → Pu := addC 56 c_cRight (addC 107 c_cFrom (gc3))
theorem gc4_ok : PuOk Tryd.prog gl0 (gc4 std) := by
  refine addC_ok (addC_ok (gc3_ok) ⟨_, Tryd.func107, rfl, by decide⟩ ?_) ⟨_, Tryd.func56, rfl, by decide⟩ ?_
  · intro args p r h hp
    unfold c_cFrom at h
    split at h <;> cases h
    exact good_cFrom _ _ _ _ _ _ _ _ _ _ hp.1 hp.2
  · intro args p r h hp
    unfold c_cRight at h
    split at h <;> cases h
    exact good_cRight _ _ _ _ _ _ _ hp.1 hp.2.1 hp.2.2
end Go.Vd
