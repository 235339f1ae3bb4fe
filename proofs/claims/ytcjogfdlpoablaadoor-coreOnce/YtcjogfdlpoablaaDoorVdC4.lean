/- A function's condition, cut in two: what its first pieces ask, and what the others ask of a state that these leave. -/
import Derived.Test.YtcjogfdlpoablaaDoorVdSeat
import Derived.Test.YtcjogfdlpoablaaDoorVdC3
set_option linter.unusedVariables false
set_option linter.unusedSimpArgs false
namespace Go.Vd
def headC : Nat → Code → Code
  | 0, _ => .skip
  | n + 1, .seq a b => .seq a (headC n b)
  | _ + 1, c => c
def tailC : Nat → Code → Code
  | 0, c => c
  | n + 1, .seq _ b => tailC n b
  | _ + 1, _ => .skip
def bodyC (fn : Func) : Code := match fn.body with
  | some c => c
  | none => .skip
theorem vc_split {A : Ar} {T : Tys} {G : Pu} {X : Xt} {C : Cl} : ∀ (n : Nat) (c : Code) (s : St) (K : Ks),
    vc A T G X C .run c s K = vc A T G X C .run (headC n c) s { K with nrm := fun s' => vc A T G X C .run (tailC n c) s' K }
  | 0, c, s, K => by simp only [headC, tailC, vc]
  | n + 1, c, s, K => by
    cases c with
    | seq a b =>
      simp only [headC, tailC, vc]
      congr 1
      have : (fun s' => vc A T G X C .run b s' K) = fun s' => vc A T G X C .run (headC n b) s' { K with nrm := fun s'' => vc A T G X C .run (tailC n b) s'' K } := funext fun s' => vc_split n b s' K
      rw [this]
    | _ => simp only [headC, tailC, vc]
theorem vcFn_cut {A : Ar} {T : Tys} {G : Pu} {X : Xt} {I : Nat → Option Func} {how : How} {fn : Func} {args : List SV} {R : SV} (n : Nat) (hb : fn.body.isSome = true) (hc : (closedA args && Nat.ble (len args) fn.ntmps) = true)
    (h : ∀ N : St → Prop, (N = fun s' => vc A T G X (inl A T G X I 12) .run (tailC n (bodyC fn)) s' { nrm := answered A T fn how R, ret := answered A T fn how R, ext := fun _ _ => False, gto := fun _ _ => False, lbl := fun _ => False }) →
      vc A T G X (inl A T G X I 12) .run (headC n (bodyC fn)) (start fn args) { nrm := N, ret := answered A T fn how R, ext := fun _ _ => False, gto := fun _ _ => False, lbl := fun _ => False }) :
    vcFn A T G X I how fn args R := by
  unfold vcFn
  cases hbd : fn.body with
  | none => rw [hbd] at hb; cases hb
  | some c =>
    have e : bodyC fn = c := by unfold bodyC; rw [hbd]
    rw [e] at h
    simp only [hc, cond_true]
    rw [vc_split n]
    exact h _ rfl
theorem vcSeq_split {A : Ar} {T : Tys} {G : Pu} {X : Xt} {C : Cl} {all : List Oper} : ∀ (l m : List Oper) (s : St) (K : St → Prop),
    vcSeq A T G X C all (l ++ m) s K = vcSeq A T G X C all l s fun s' => vcSeq A T G X C all m s' K
  | [], m, s, K => rfl
  | o :: l, m, s, K => by
    have ih : ∀ s', vcSeq A T G X C all (l ++ m) s' K = vcSeq A T G X C all l s' fun s'' => vcSeq A T G X C all m s'' K := fun s' => vcSeq_split l m s' K
    simp only [List.cons_append, vcSeq, ih]
/-- Within a region that is carried out in order: behind n operations. -/
theorem vc_region_cut {A : Ar} {T : Tys} {G : Pu} {X : Xt} {C : Cl} (n : Nat) {z : Nat} {ops : Array Oper} {s : St} {K : Ks}
    (h : ∀ N : St → Prop, (N = fun s' => vcSeq A T G X C ops.toList (ops.toList.drop n) s' K.nrm) → vcSeq A T G X C ops.toList (ops.toList.take n) s N) : vcSeq A T G X C ops.toList ops.toList s K.nrm := by
  have e : ops.toList = ops.toList.take n ++ ops.toList.drop n := (List.take_append_drop n _).symm
  conv => arg 7; rw [e]
  rw [vcSeq_split]
  exact h _ rfl
end Go.Vd

/- The core's laws: awake. -/
set_option linter.unusedVariables false
set_option linter.unusedSimpArgs false
set_option maxRecDepth 100000
set_option maxHeartbeats 8000000
namespace Go.Vd
open Go.Proofs
theorem good_cFinal (z : Int) : GoodP Tryd.prog gl0 58 [.int .i64 z] (.bool (std.tb fun _ => decide (z = 2 ∨ z = 3 ∨ z = 5 ∨ z = 6))) := by
  refine fn_sound' (T := seatT) (G := noC) (X := noX) seatT_ok noC_ok noX_ok noI_ok mixed Tryd.func58 (.one) (fun A => [.int .i64 z]) (fun A => .bool (A.tb fun _ => decide (z = 2 ∨ z = 3 ∨ z = 5 ∨ z = 6))) fun A hA => ?_
  cbv
  repeat' (first | with_reducible exact True.intro | with_reducible exact dr_ok hA (by kernel_rfl) | with_reducible refine And.intro ?_ ?_ | (intro hc; cbv))
  all_goals (subst hA; simp [std_add, std_sub, std_mul, std_quo, std_rem, std_band, std_bor, std_bxor, std_shl, std_shr, std_eq, std_ne, std_lt, std_le, std_conv, std_not, std_beq, std_bne, std_ite, std_want, std_and2, std_sadd, std_seq, std_sne, std_slt, std_sle, std_sgt, std_sge, std_slen, std_sget, std_scut, std_ofNat, std_toNat, std_nsub, std_nadd, std_lenOf, std_nz, std_nneg, std_inb, std_upto, std_slt63, std_grow, std_imp, std_impN, std_tr, std_tb, std_ti, std_ts, std_tn, std_tp, std_nmin, std_makes, std_room, std_zeros, std_nilq, std_notq, std_eqi, std_eqn, std_eqb, std_eqs, std_eqv, std_cat, std_lst, std_rset, std_rcopy, std_shift, std_eqr, std_strOf, std_bytesOf, std_isB, std_zOf, zOf_int, std_isI, isI_int, std_getL, std_nmul, std_sOf, sOf_str, std_isS, isS_str] at *)
  all_goals first | assumption | omega | trace_state
theorem good_kShort (s : Int) (r : List UInt8) : GoodP Tryd.prog gl0 39 [sKey std s r] (.bool (std.tb fun _ => decide (r.length ≤ 300))) := by
  refine fn_sound' (T := seatT) (G := noC) (X := noX) seatT_ok noC_ok noX_ok noI_ok mixed Tryd.func39 (.one) (fun A => [sKey A s r]) (fun A => .bool (A.tb fun _ => decide (r.length ≤ 300))) fun A hA => ?_
  cbv
  repeat' (first | with_reducible exact True.intro | with_reducible exact dr_ok hA (by kernel_rfl) | with_reducible refine And.intro ?_ ?_ | (intro hc; cbv))
  all_goals (subst hA; simp [std_add, std_sub, std_mul, std_quo, std_rem, std_band, std_bor, std_bxor, std_shl, std_shr, std_eq, std_ne, std_lt, std_le, std_conv, std_not, std_beq, std_bne, std_ite, std_want, std_and2, std_sadd, std_seq, std_sne, std_slt, std_sle, std_sgt, std_sge, std_slen, std_sget, std_scut, std_ofNat, std_toNat, std_nsub, std_nadd, std_lenOf, std_nz, std_nneg, std_inb, std_upto, std_slt63, std_grow, std_imp, std_impN, std_tr, std_tb, std_ti, std_ts, std_tn, std_tp, std_nmin, std_makes, std_room, std_zeros, std_nilq, std_notq, std_eqi, std_eqn, std_eqb, std_eqs, std_eqv, std_cat, std_lst, std_rset, std_rcopy, std_shift, std_eqr, std_strOf, std_bytesOf, std_isB, std_zOf, zOf_int, std_isI, isI_int, std_getL, std_nmul, std_sOf, sOf_str, std_isS, isS_str] at *)
  all_goals omega
noncomputable def c_kShort : Ct := fun A args => match args with
  | [.agg [.int .u32 s, .str r]] => some (none, .bool (A.tb fun _ => decide (r.length ≤ 300)))
  | _ => none
noncomputable def gc4s : Ar → Pu := addC 39 c_kShort (gc4)
theorem gc4s_ok : PuOk Tryd.prog gl0 (gc4s std) := by
  refine addC_ok (gc4_ok) ⟨_, Tryd.func39, rfl, by decide⟩ ?_
  · intro args p r h hp
    unfold c_kShort at h
    split at h <;> cases h
    exact good_kShort _ _
theorem good_eShort (s st am tr ca : Int) (r pan code : List UInt8) : GoodP Tryd.prog gl0 38 [.agg [.int .u32 s, .str r, .int .i64 st, .str pan, .int .u64 am, .str code, .int .i64 tr, .int .i64 ca]] (.bool (std.tb fun _ => decide (r.length ≤ 300 ∧ pan.length ≤ 300 ∧ code.length ≤ 300))) := by
  refine fn_sound' (T := seatT) (G := gc4s) (X := noX) seatT_ok gc4s_ok noX_ok noI_ok mixed Tryd.func38 (.one) (fun A => [.agg [.int .u32 s, .str r, .int .i64 st, .str pan, .int .u64 am, .str code, .int .i64 tr, .int .i64 ca]]) (fun A => .bool (A.tb fun _ => decide (r.length ≤ 300 ∧ pan.length ≤ 300 ∧ code.length ≤ 300))) fun A hA => ?_
  cbv
  repeat' (first | with_reducible exact True.intro | with_reducible exact dr_ok hA (by kernel_rfl) | with_reducible refine And.intro ?_ ?_ | (intro hc; cbv))
  all_goals (subst hA; try simp [std_add, std_sub, std_mul, std_quo, std_rem, std_band, std_bor, std_bxor, std_shl, std_shr, std_eq, std_ne, std_lt, std_le, std_conv, std_not, std_beq, std_bne, std_ite, std_want, std_and2, std_sadd, std_seq, std_sne, std_slt, std_sle, std_sgt, std_sge, std_slen, std_sget, std_scut, std_ofNat, std_toNat, std_nsub, std_nadd, std_lenOf, std_nz, std_nneg, std_inb, std_upto, std_slt63, std_grow, std_imp, std_impN, std_tr, std_tb, std_ti, std_ts, std_tn, std_tp, std_nmin, std_makes, std_room, std_zeros, std_nilq, std_notq, std_eqi, std_eqn, std_eqb, std_eqs, std_eqv, std_cat, std_lst, std_rset, std_rcopy, std_shift, std_eqr, std_strOf, std_bytesOf, std_isB, std_zOf, zOf_int, std_isI, isI_int, std_getL, std_nmul, std_sOf, sOf_str, std_isS, isS_str] at *)
  all_goals first
    | (rw [Bool.eq_iff_iff]; simp; omega)
    | trace_state
noncomputable def c_cFinal : Ct := fun A args => match args with
  | [.int .i64 z] => some (none, .bool (A.tb fun _ => decide (z = 2 ∨ z = 3 ∨ z = 5 ∨ z = 6)))
  | _ => none
noncomputable def c_eShort : Ct := fun A args => match args with
  | [.agg [.int .u32 s, .str r, .int .i64 st, .str pan, .int .u64 am, .str code, .int .i64 tr, .int .i64 ca]] => some (none, .bool (A.tb fun _ => decide (r.length ≤ 300 ∧ pan.length ≤ 300 ∧ code.length ≤ 300)))
  | _ => none
noncomputable def c_cDo : Ct := fun A args => match args with
  | [.agg [.int .u32 s, .str r, .int .i64 st, .str pan, .int .u64 am, .str code, .int .i64 tr, .int .i64 ca], .agg [.int .i64 v, .int .i64 k, .str dpan, .int .u64 dam, .int .u32 ds, .str dr, .str dcode], .int .i64 n] => some (some (A.tp fun _ => (pan.length ≤ 100000 ∧ code.length ≤ 1000000) ∧ dpan.length ≤ 100000 ∧ dr.length ≤ 1000000 ∧ dcode.length ≤ 1000000), .tup [stepS A fun _ => stp ⟨s, r, st, pan, am, code, tr, ca⟩ v ⟨k, dpan, dam, ds, dr, dcode⟩ n, .int .i64 (A.ti fun _ => stpE ⟨s, r, st, pan, am, code, tr, ca⟩ v ⟨k, dpan, dam, ds, dr, dcode⟩ n)])
  | _ => none
noncomputable def gc5 : Ar → Pu := addC 58 c_cFinal (addC 38 c_eShort (addC 54 c_cDo (gc4s)))
theorem gc5_ok : PuOk Tryd.prog gl0 (gc5 std) := by
  refine addC_ok (addC_ok (addC_ok (gc4s_ok) ⟨_, Tryd.func54, rfl, by decide⟩ ?_) ⟨_, Tryd.func38, rfl, by decide⟩ ?_) ⟨_, Tryd.func58, rfl, by decide⟩ ?_
  · intro args p r h hp
    unfold c_cDo at h
    split at h <;> cases h
    exact good_cDo _ _ _ _ _ _ _ _ _ _ _ _ _ _ _ _ hp.1.1 hp.1.2 hp.2.1 hp.2.2.1 hp.2.2.2
  · intro args p r h hp
    unfold c_eShort at h
    split at h <;> cases h
    exact good_eShort _ _ _ _ _ _ _ _
  · intro args p r h hp
    unfold c_cFinal at h
    split at h <;> cases h
    exact good_cFinal _
theorem ca1 : stp ⟨0, [], 0, [], 0, [], 0, 0⟩ 1 ⟨1, [49, 56], 5, 1, [82, 82, 78, 48, 48, 48, 48, 48, 48, 48, 48, 49], []⟩ 3 = ⟨⟨1, [82, 82, 78, 48, 48, 48, 48, 48, 48, 48, 48, 49], 1, [49, 56], 5, [], 0, 0⟩, [], [⟨1, [49, 56], 5, 1, [82, 82, 78, 48, 48, 48, 48, 48, 48, 48, 48, 49], []⟩], 1, false⟩ := by decide +kernel
theorem ca2 : stpE ⟨0, [], 0, [], 0, [], 0, 0⟩ 1 ⟨1, [49, 56], 5, 1, [82, 82, 78, 48, 48, 48, 48, 48, 48, 48, 48, 49], []⟩ 3 = 0 := by decide +kernel
theorem ca3 : stp ⟨1, [82, 82, 78, 48, 48, 48, 48, 48, 48, 48, 48, 49], 1, [49, 56], 5, [], 0, 0⟩ 4 ⟨0, [], 0, 1, [82, 82, 78, 48, 48, 48, 48, 48, 48, 48, 48, 49], []⟩ 3 = ⟨⟨1, [82, 82, 78, 48, 48, 48, 48, 48, 48, 48, 48, 49], 4, [49, 56], 5, [54, 56], 0, 1⟩, [⟨2, [], 0, 1, [82, 82, 78, 48, 48, 48, 48, 48, 48, 48, 48, 49], [54, 56]⟩], [⟨5, [49, 56], 5, 1, [82, 82, 78, 48, 48, 48, 48, 48, 48, 48, 48, 49], []⟩], 1, false⟩ := by decide +kernel
theorem ca4 : stpE ⟨1, [82, 82, 78, 48, 48, 48, 48, 48, 48, 48, 48, 49], 1, [49, 56], 5, [], 0, 0⟩ 4 ⟨0, [], 0, 1, [82, 82, 78, 48, 48, 48, 48, 48, 48, 48, 48, 49], []⟩ 3 = 0 := by decide +kernel
theorem ca5 : stpE ⟨1, [82, 82, 78, 48, 48, 48, 48, 48, 48, 48, 48, 49], 1, [49, 56], 5, [], 0, 0⟩ 4 ⟨1, [49, 56], 5, 1, [82, 82, 78, 48, 48, 48, 48, 48, 48, 48, 48, 49], []⟩ 3 = 1 := by decide +kernel
theorem ca6 : stp ⟨1, [82, 82, 78, 48, 48, 48, 48, 48, 48, 48, 48, 49], 1, [49, 56], 5, [], 0, 0⟩ 4 ⟨1, [49, 56], 5, 1, [82, 82, 78, 48, 48, 48, 48, 48, 48, 48, 48, 49], []⟩ 3 = ⟨⟨0, [], 0, [], 0, [], 0, 0⟩, [], [], 0, false⟩ := by decide +kernel
/-- One contract, or another. -/
def orD (c1 c2 : Ct) : Ct := fun A args => match c1 A args with
  | some x => some x
  | none => c2 A args
theorem orD_ok {P : Program} {gl : Nat → SV} {f : Nat} {c1 c2 : Ct} (h1 : ∀ args p r, c1 std args = some (p, r) → holds p → GoodP P gl f args r) (h2 : ∀ args p r, c2 std args = some (p, r) → holds p → GoodP P gl f args r) :
    ∀ args p r, orD c1 c2 std args = some (p, r) → holds p → GoodP P gl f args r := by
  intro args p r h hp
  unfold orD at h
  split at h
  · rename_i x hx
    cases h
    exact h1 _ _ _ hx hp
  · exact h2 _ _ _ h hp
noncomputable def c_da1 : Ct := fun A args => match args with
  | [.agg [.int .u32 s, .str r, .int .i64 st, .str pan, .int .u64 am, .str code, .int .i64 tr, .int .i64 ca], .agg [.int .i64 1, .int .i64 1, .str dpan, .int .u64 dam, .int .u32 ds, .str dr, .str dcode], .int .i64 3] => some (some (A.tp fun _ => s = 0 ∧ r = [] ∧ st = 0 ∧ pan = [] ∧ am = 0 ∧ code = [] ∧ tr = 0 ∧ ca = 0 ∧ dpan = [49, 56] ∧ dam = 5 ∧ ds = 1 ∧ dr = [82, 82, 78, 48, 48, 48, 48, 48, 48, 48, 48, 49] ∧ dcode = []), .tup [.agg [.int .u32 1, .str [82, 82, 78, 48, 48, 48, 48, 48, 48, 48, 48, 49], .int .i64 1, .str [49, 56], .int .u64 5, .str [], .int .i64 0, .int .i64 0, rowS eD D0 6 A (fun _ => []), rowS eD D0 6 A (fun _ => [⟨1, [49, 56], 5, 1, [82, 82, 78, 48, 48, 48, 48, 48, 48, 48, 48, 49], []⟩]), .int .i64 1, .bool false], .int .i64 0])
  | _ => none
theorem c_da1_ok : ∀ args p r, c_da1 std args = some (p, r) → holds p → GoodP Tryd.prog gl0 54 args r := by
  intro args p r h hp
  unfold c_da1 at h
  split at h <;> cases h
  obtain ⟨rfl, rfl, rfl, rfl, rfl, rfl, rfl, rfl, rfl, rfl, rfl, rfl, rfl⟩ := hp
  have h := good_cDo 0 0 0 0 0 1 1 5 1 3 [] [] [] [49, 56] [82, 82, 78, 48, 48, 48, 48, 48, 48, 48, 48, 49] [] (by decide) (by decide) (by decide) (by decide) (by decide)
  unfold stepS at h
  simp only [ca1, ca2] at h
  exact h
noncomputable def c_da2 : Ct := fun A args => match args with
  | [.agg [.int .u32 s, .str r, .int .i64 st, .str pan, .int .u64 am, .str code, .int .i64 tr, .int .i64 ca], .agg [.int .i64 4, .int .i64 0, .str dpan, .int .u64 dam, .int .u32 ds, .str dr, .str dcode], .int .i64 3] => some (some (A.tp fun _ => s = 1 ∧ r = [82, 82, 78, 48, 48, 48, 48, 48, 48, 48, 48, 49] ∧ st = 1 ∧ pan = [49, 56] ∧ am = 5 ∧ code = [] ∧ tr = 0 ∧ ca = 0 ∧ dpan = [] ∧ dam = 0 ∧ ds = 1 ∧ dr = [82, 82, 78, 48, 48, 48, 48, 48, 48, 48, 48, 49] ∧ dcode = []), .tup [.agg [.int .u32 1, .str [82, 82, 78, 48, 48, 48, 48, 48, 48, 48, 48, 49], .int .i64 4, .str [49, 56], .int .u64 5, .str [54, 56], .int .i64 0, .int .i64 1, rowS eD D0 6 A (fun _ => [⟨2, [], 0, 1, [82, 82, 78, 48, 48, 48, 48, 48, 48, 48, 48, 49], [54, 56]⟩]), rowS eD D0 6 A (fun _ => [⟨5, [49, 56], 5, 1, [82, 82, 78, 48, 48, 48, 48, 48, 48, 48, 48, 49], []⟩]), .int .i64 1, .bool false], .int .i64 0])
  | _ => none
theorem c_da2_ok : ∀ args p r, c_da2 std args = some (p, r) → holds p → GoodP Tryd.prog gl0 54 args r := by
  intro args p r h hp
  unfold c_da2 at h
  split at h <;> cases h
  obtain ⟨rfl, rfl, rfl, rfl, rfl, rfl, rfl, rfl, rfl, rfl, rfl, rfl, rfl⟩ := hp
  have h := good_cDo 1 1 5 0 0 4 0 0 1 3 [82, 82, 78, 48, 48, 48, 48, 48, 48, 48, 48, 49] [49, 56] [] [] [82, 82, 78, 48, 48, 48, 48, 48, 48, 48, 48, 49] [] (by decide) (by decide) (by decide) (by decide) (by decide)
  unfold stepS at h
  simp only [ca3, ca4] at h
  exact h
noncomputable def c_da3 : Ct := fun A args => match args with
  | [.agg [.int .u32 s, .str r, .int .i64 st, .str pan, .int .u64 am, .str code, .int .i64 tr, .int .i64 ca], .agg [.int .i64 4, .int .i64 1, .str dpan, .int .u64 dam, .int .u32 ds, .str dr, .str dcode], .int .i64 3] => some (some (A.tp fun _ => s = 1 ∧ r = [82, 82, 78, 48, 48, 48, 48, 48, 48, 48, 48, 49] ∧ st = 1 ∧ pan = [49, 56] ∧ am = 5 ∧ code = [] ∧ tr = 0 ∧ ca = 0 ∧ dpan = [49, 56] ∧ dam = 5 ∧ ds = 1 ∧ dr = [82, 82, 78, 48, 48, 48, 48, 48, 48, 48, 48, 49] ∧ dcode = []), .tup [.agg [.int .u32 0, .str [], .int .i64 0, .str [], .int .u64 0, .str [], .int .i64 0, .int .i64 0, rowS eD D0 6 A (fun _ => []), rowS eD D0 6 A (fun _ => []), .int .i64 0, .bool false], .int .i64 1])
  | _ => none
theorem c_da3_ok : ∀ args p r, c_da3 std args = some (p, r) → holds p → GoodP Tryd.prog gl0 54 args r := by
  intro args p r h hp
  unfold c_da3 at h
  split at h <;> cases h
  obtain ⟨rfl, rfl, rfl, rfl, rfl, rfl, rfl, rfl, rfl, rfl, rfl, rfl, rfl⟩ := hp
  have h := good_cDo 1 1 5 0 0 4 1 5 1 3 [82, 82, 78, 48, 48, 48, 48, 48, 48, 48, 48, 49] [49, 56] [] [49, 56] [82, 82, 78, 48, 48, 48, 48, 48, 48, 48, 48, 49] [] (by decide) (by decide) (by decide) (by decide) (by decide)
  unfold stepS at h
  simp only [ca6, ca5] at h
  exact h
noncomputable def gcA : Ar → Pu := addC 54 (orD c_da1 (orD c_da2 c_da3)) gc5
theorem gcA_ok : PuOk Tryd.prog gl0 (gcA std) := addC_ok gc5_ok ⟨_, Tryd.func54, rfl, by decide⟩ (orD_ok c_da1_ok (orD_ok c_da2_ok c_da3_ok))
theorem good_cAwake  : GoodP Tryd.prog gl0 53 [] (.bool true) := by
  refine fn_sound' (T := seatT) (G := gcA) (X := noX) seatT_ok gcA_ok noX_ok noI_ok mixed Tryd.func53 (.one) (fun A => []) (fun A => .bool true) fun A hA => ?_
  refine vcFn_cut 4 rfl rfl fun N hN => ?_
  cbv
  repeat' (first | with_reducible exact True.intro | with_reducible exact dr_ok hA (by kernel_rfl) | with_reducible refine And.intro ?_ ?_ | (intro hc; cbv))
  all_goals (first | (rw [hN]; clear hN; cbv; repeat' (first | with_reducible exact True.intro | with_reducible exact dr_ok hA (by kernel_rfl) | with_reducible refine And.intro ?_ ?_ | (intro hc; cbv))) | skip)
  all_goals (subst hA; try simp [std_add, std_sub, std_mul, std_quo, std_rem, std_band, std_bor, std_bxor, std_shl, std_shr, std_eq, std_ne, std_lt, std_le, std_conv, std_not, std_beq, std_bne, std_ite, std_want, std_and2, std_sadd, std_seq, std_sne, std_slt, std_sle, std_sgt, std_sge, std_slen, std_sget, std_scut, std_ofNat, std_toNat, std_nsub, std_nadd, std_lenOf, std_nz, std_nneg, std_inb, std_upto, std_slt63, std_grow, std_imp, std_impN, std_tr, std_tb, std_ti, std_ts, std_tn, std_tp, std_nmin, std_makes, std_room, std_zeros, std_nilq, std_notq, std_eqi, std_eqn, std_eqb, std_eqs, std_eqv, std_cat, std_lst, std_rset, std_rcopy, std_shift, std_eqr, std_strOf, std_bytesOf, std_isB, std_zOf, zOf_int, std_isI, isI_int, std_getL, std_nmul, std_sOf, sOf_str, std_isS, isS_str] at *)
  all_goals trace_state
end Go.Vd
