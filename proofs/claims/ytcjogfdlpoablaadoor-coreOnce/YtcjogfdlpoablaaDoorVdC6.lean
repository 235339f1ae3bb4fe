/- A slice that is nil, as a row of nothing. -/
import Derived.Test.YtcjogfdlpoablaaDoorVdSeat
import Derived.Test.YtcjogfdlpoablaaDoorVdC5
set_option linter.unusedVariables false
namespace Go.Vd
def svn1 : SV → SV → Prop
  | .slc n k f, t => (∃ g, t = .slc n k g ∧ ∀ i j, i < n → j < k → Ceq (f i j) (g i j)) ∨ (n = 0 ∧ ∃ k' g, t = .slc 0 k' g)
  | .nils, t => ∃ k g, t = .slc 0 k g
  | s, t => s = t
theorem svn1_rel {w : World} {ρ : Nat → Value} {rw N : Nat → Prop} {v : Value} {s t : SV} (h : Rel w ρ rw N v s) (e : svn1 s t) : Rel w ρ rw N v t := by
  cases s with
  | slc n k f =>
    rcases e with e | ⟨rfl, k', g, rfl⟩
    · exact sv1_rel h e
    · cases h with
      | slc a _ c _ _ g2 hn hc ha hr => exact .slc a 0 c k' g (fun _ _ => undef) hn (fun i j hi => absurd hi (by omega)) (fun h => absurd h (by omega)) (fun i j hi => absurd hi (by omega))
  | nils =>
    obtain ⟨k, g, rfl⟩ := e
    cases h with
    | nils => exact .slc none 0 0 k g (fun _ _ => undef) (Nat.le_refl _) (fun i j hi => absurd hi (by omega)) (fun h => absurd h (by omega)) (fun i j hi => absurd hi (by omega))
  | _ => cases e; exact h
def svn2 : SV → SV → Prop
  | .agg l, t => ∃ m, t = .agg m ∧ All2 svn1 l m
  | s, t => svn1 s t
theorem svn2_rel {w : World} {ρ : Nat → Value} {rw N : Nat → Prop} {v : Value} {s t : SV} (h : Rel w ρ rw N v s) (e : svn2 s t) : Rel w ρ rw N v t := by
  cases s with
  | agg l =>
    obtain ⟨m, rfl, he⟩ := e
    generalize hs : SV.agg l = s at h
    cases h with
    | agg cs l' hl h1 hh =>
      cases hs
      have hlen := he.length
      refine .agg _ _ (by omega) h1 fun i v t hv ht => ?_
      have hi : i < l.length := by have := (List.getElem?_eq_some_iff.1 ht).1; omega
      exact svn1_rel (hh i v _ hv (List.getElem?_eq_getElem hi)) (he.get i _ t (List.getElem?_eq_getElem hi) ht)
    | _ => cases hs
  | _ => exact svn1_rel h e
theorem good_svn {P : Program} {gl : Nat → SV} {f : FuncId} {args args' : List SV} {r : SV} (h : GoodP P gl f args' r) (he : All2 svn2 args args') : GoodP P gl f args r := by
  intro w ρ rw N vs hfr hrw hg hargs
  refine h w ρ rw N vs hfr hrw hg ?_
  have key : ∀ {vs : List Value} {l m : List SV}, All2 (Rel w ρ rw N) vs l → All2 svn2 l m → All2 (Rel w ρ rw N) vs m := by
    intro vs
    induction vs with
    | nil => intro l m h1 h2; cases l with
      | nil => cases m with
        | nil => trivial
        | cons => exact h2.elim
      | cons => exact h1.elim
    | cons v vs ih => intro l m h1 h2; cases l with
      | nil => exact h1.elim
      | cons s l => cases m with
        | nil => exact h2.elim
        | cons t m => exact ⟨svn2_rel h1.1 h2.1, ih h1.2 h2.2⟩
  exact key hargs he
end Go.Vd

/- The core's laws: are two lists of deals, and two steps, the same? -/
set_option linter.unusedVariables false
set_option linter.unusedSimpArgs false
set_option maxRecDepth 100000
set_option maxHeartbeats 8000000
namespace Go.Vd
open Go.Proofs
theorem Dl_ext {x y : Dl} (h0 : x.k = y.k) (h1 : x.pan = y.pan) (h2 : x.am = y.am) (h3 : x.s = y.s) (h4 : x.r = y.r) (h5 : x.code = y.code) : x = y := by cases x; cases y; simp_all
theorem good_dSame (L M : List Dl) (hL : L.length ≤ 1000000) : GoodP Tryd.prog gl0 114 [rowS eD ⟨0, [], 0, 0, [], []⟩ 6 std fun _ => L, rowS eD ⟨0, [], 0, 0, [], []⟩ 6 std fun _ => M] (.bool (std.tb fun _ => decide (L = M))) := by
  refine fn_sound' (T := seatT) (G := noC) (X := noX) seatT_ok noC_ok noX_ok noI_ok mixed Tryd.func114 (.one) (fun A => [rowS eD ⟨0, [], 0, 0, [], []⟩ 6 A fun _ => L, rowS eD ⟨0, [], 0, 0, [], []⟩ 6 A fun _ => M]) (fun A => .bool (A.tb fun _ => decide (L = M))) fun A hA => ?_
  cbv
  repeat' (first | with_reducible exact True.intro | with_reducible exact dr_ok hA (by kernel_rfl) | with_reducible refine And.intro ?_ ?_ | (intro hc; cbv))
  rotate_right
  all_goals first
    | (fail_if_success (refine Exists.intro ?_ ?_)
       subst hA
       simp [std_add, std_sub, std_mul, std_quo, std_rem, std_band, std_bor, std_bxor, std_shl, std_shr, std_eq, std_ne, std_lt, std_le, std_conv, std_not, std_beq, std_bne, std_ite, std_want, std_and2, std_sadd, std_seq, std_sne, std_slt, std_sle, std_sgt, std_sge, std_slen, std_sget, std_scut, std_ofNat, std_toNat, std_nsub, std_nadd, std_lenOf, std_nz, std_nneg, std_inb, std_upto, std_slt63, std_grow, std_imp, std_impN, std_tr, std_tb, std_ti, std_ts, std_tn, std_tp, std_nmin, std_makes, std_room, std_zeros, std_nilq, std_notq, std_eqi, std_eqn, std_eqb, std_eqs, std_eqv, std_cat, std_lst, std_rset, std_rcopy, std_shift, std_eqr, std_strOf, std_bytesOf, std_isB, std_zOf, zOf_int, std_isI, isI_int, std_getL, std_nmul, std_sOf, sOf_str, std_isS, isS_str] at *
       first | done | (intro e; subst e; exact absurd rfl (by assumption)))
    | skip
  have hl : L.length = M.length := by subst hA; simp [std_add, std_sub, std_mul, std_quo, std_rem, std_band, std_bor, std_bxor, std_shl, std_shr, std_eq, std_ne, std_lt, std_le, std_conv, std_not, std_beq, std_bne, std_ite, std_want, std_and2, std_sadd, std_seq, std_sne, std_slt, std_sle, std_sgt, std_sge, std_slen, std_sget, std_scut, std_ofNat, std_toNat, std_nsub, std_nadd, std_lenOf, std_nz, std_nneg, std_inb, std_upto, std_slt63, std_grow, std_imp, std_impN, std_tr, std_tb, std_ti, std_ts, std_tn, std_tp, std_nmin, std_makes, std_room, std_zeros, std_nilq, std_notq, std_eqi, std_eqn, std_eqb, std_eqs, std_eqv, std_cat, std_lst, std_rset, std_rcopy, std_shift, std_eqr, std_strOf, std_bytesOf, std_isB, std_zOf, zOf_int, std_isI, isI_int, std_getL, std_nmul, std_sOf, sOf_str, std_isS, isS_str] at hc; omega
  refine ⟨⟨{i : Nat // i ≤ L.length ∧ L.take i = M.take i}, fun b i => [(5, .int .i64 (i.1 : Nat))], fun b i => [], fun i => L.length - i.1, true⟩, ⟨⟨0, by omega, rfl⟩, ?_⟩, ?_⟩
  · cbv
    subst hA
    simp [-List.getD_eq_getElem?_getD, std_add, std_sub, std_mul, std_quo, std_rem, std_band, std_bor, std_bxor, std_shl, std_shr, std_eq, std_ne, std_lt, std_le, std_conv, std_not, std_beq, std_bne, std_ite, std_want, std_and2, std_sadd, std_seq, std_sne, std_slt, std_sle, std_sgt, std_sge, std_slen, std_sget, std_scut, std_ofNat, std_toNat, std_nsub, std_nadd, std_lenOf, std_nz, std_nneg, std_inb, std_upto, std_slt63, std_grow, std_imp, std_impN, std_tr, std_tb, std_ti, std_ts, std_tn, std_tp, std_nmin, std_makes, std_room, std_zeros, std_nilq, std_notq, std_eqi, std_eqn, std_eqb, std_eqs, std_eqv, std_cat, std_lst, std_rset, std_rcopy, std_shift, std_eqr, std_strOf, std_bytesOf, std_isB, std_zOf, zOf_int, std_isI, isI_int, std_getL, std_nmul, std_sOf, sOf_str, std_isS, isS_str]
  · rintro ⟨i, hi, hz⟩
    cbv
    repeat' (first | with_reducible exact True.intro | with_reducible exact dr_ok hA (by kernel_rfl) | with_reducible refine And.intro ?_ ?_ | (intro hc; cbv))
    all_goals first
      | (fail_if_success (refine Exists.intro ?_ ?_)
         have hlt : i < L.length := by (clear hz; subst hA; simp [-List.getD_eq_getElem?_getD, std_add, std_sub, std_mul, std_quo, std_rem, std_band, std_bor, std_bxor, std_shl, std_shr, std_eq, std_ne, std_lt, std_le, std_conv, std_not, std_beq, std_bne, std_ite, std_want, std_and2, std_sadd, std_seq, std_sne, std_slt, std_sle, std_sgt, std_sge, std_slen, std_sget, std_scut, std_ofNat, std_toNat, std_nsub, std_nadd, std_lenOf, std_nz, std_nneg, std_inb, std_upto, std_slt63, std_grow, std_imp, std_impN, std_tr, std_tb, std_ti, std_ts, std_tn, std_tp, std_nmin, std_makes, std_room, std_zeros, std_nilq, std_notq, std_eqi, std_eqn, std_eqb, std_eqs, std_eqv, std_cat, std_lst, std_rset, std_rcopy, std_shift, std_eqr, std_strOf, std_bytesOf, std_isB, std_zOf, zOf_int, std_isI, isI_int, std_getL, std_nmul, std_sOf, sOf_str, std_isS, isS_str] at * <;> omega)
         clear hz
         subst hA
         simp [-List.getD_eq_getElem?_getD, std_add, std_sub, std_mul, std_quo, std_rem, std_band, std_bor, std_bxor, std_shl, std_shr, std_eq, std_ne, std_lt, std_le, std_conv, std_not, std_beq, std_bne, std_ite, std_want, std_and2, std_sadd, std_seq, std_sne, std_slt, std_sle, std_sgt, std_sge, std_slen, std_sget, std_scut, std_ofNat, std_toNat, std_nsub, std_nadd, std_lenOf, std_nz, std_nneg, std_inb, std_upto, std_slt63, std_grow, std_imp, std_impN, std_tr, std_tb, std_ti, std_ts, std_tn, std_tp, std_nmin, std_makes, std_room, std_zeros, std_nilq, std_notq, std_eqi, std_eqn, std_eqb, std_eqs, std_eqv, std_cat, std_lst, std_rset, std_rcopy, std_shift, std_eqr, std_strOf, std_bytesOf, std_isB, std_zOf, zOf_int, std_isI, isI_int, std_getL, std_nmul, std_sOf, sOf_str, std_isS, isS_str] at *
         first
           | done
           | omega
           | (intro e; subst e; simp at hc; done))
      | (fail_if_success (refine Exists.intro ?_ ?_)
         have hie : i = L.length := by (clear hz; subst hA; simp [-List.getD_eq_getElem?_getD, std_add, std_sub, std_mul, std_quo, std_rem, std_band, std_bor, std_bxor, std_shl, std_shr, std_eq, std_ne, std_lt, std_le, std_conv, std_not, std_beq, std_bne, std_ite, std_want, std_and2, std_sadd, std_seq, std_sne, std_slt, std_sle, std_sgt, std_sge, std_slen, std_sget, std_scut, std_ofNat, std_toNat, std_nsub, std_nadd, std_lenOf, std_nz, std_nneg, std_inb, std_upto, std_slt63, std_grow, std_imp, std_impN, std_tr, std_tb, std_ti, std_ts, std_tn, std_tp, std_nmin, std_makes, std_room, std_zeros, std_nilq, std_notq, std_eqi, std_eqn, std_eqb, std_eqs, std_eqv, std_cat, std_lst, std_rset, std_rcopy, std_shift, std_eqr, std_strOf, std_bytesOf, std_isB, std_zOf, zOf_int, std_isI, isI_int, std_getL, std_nmul, std_sOf, sOf_str, std_isS, isS_str] at * <;> omega)
         rw [hie, List.take_length, hl, List.take_length] at hz
         subst hA
         simp [std_add, std_sub, std_mul, std_quo, std_rem, std_band, std_bor, std_bxor, std_shl, std_shr, std_eq, std_ne, std_lt, std_le, std_conv, std_not, std_beq, std_bne, std_ite, std_want, std_and2, std_sadd, std_seq, std_sne, std_slt, std_sle, std_sgt, std_sge, std_slen, std_sget, std_scut, std_ofNat, std_toNat, std_nsub, std_nadd, std_lenOf, std_nz, std_nneg, std_inb, std_upto, std_slt63, std_grow, std_imp, std_impN, std_tr, std_tb, std_ti, std_ts, std_tn, std_tp, std_nmin, std_makes, std_room, std_zeros, std_nilq, std_notq, std_eqi, std_eqn, std_eqb, std_eqs, std_eqv, std_cat, std_lst, std_rset, std_rcopy, std_shift, std_eqr, std_strOf, std_bytesOf, std_isB, std_zOf, zOf_int, std_isI, isI_int, std_getL, std_nmul, std_sOf, sOf_str, std_isS, isS_str, hz]; done)
      | (have hlt : i < L.length := by (clear hz; subst hA; simp [-List.getD_eq_getElem?_getD, std_add, std_sub, std_mul, std_quo, std_rem, std_band, std_bor, std_bxor, std_shl, std_shr, std_eq, std_ne, std_lt, std_le, std_conv, std_not, std_beq, std_bne, std_ite, std_want, std_and2, std_sadd, std_seq, std_sne, std_slt, std_sle, std_sgt, std_sge, std_slen, std_sget, std_scut, std_ofNat, std_toNat, std_nsub, std_nadd, std_lenOf, std_nz, std_nneg, std_inb, std_upto, std_slt63, std_grow, std_imp, std_impN, std_tr, std_tb, std_ti, std_ts, std_tn, std_tp, std_nmin, std_makes, std_room, std_zeros, std_nilq, std_notq, std_eqi, std_eqn, std_eqb, std_eqs, std_eqv, std_cat, std_lst, std_rset, std_rcopy, std_shift, std_eqr, std_strOf, std_bytesOf, std_isB, std_zOf, zOf_int, std_isI, isI_int, std_getL, std_nmul, std_sOf, sOf_str, std_isS, isS_str] at * <;> omega)
         have he : L.getD i ⟨0, [], 0, 0, [], []⟩ = M.getD i ⟨0, [], 0, 0, [], []⟩ := by
           clear hz
           subst hA
           simp [-List.getD_eq_getElem?_getD, std_add, std_sub, std_mul, std_quo, std_rem, std_band, std_bor, std_bxor, std_shl, std_shr, std_eq, std_ne, std_lt, std_le, std_conv, std_not, std_beq, std_bne, std_ite, std_want, std_and2, std_sadd, std_seq, std_sne, std_slt, std_sle, std_sgt, std_sge, std_slen, std_sget, std_scut, std_ofNat, std_toNat, std_nsub, std_nadd, std_lenOf, std_nz, std_nneg, std_inb, std_upto, std_slt63, std_grow, std_imp, std_impN, std_tr, std_tb, std_ti, std_ts, std_tn, std_tp, std_nmin, std_makes, std_room, std_zeros, std_nilq, std_notq, std_eqi, std_eqn, std_eqb, std_eqs, std_eqv, std_cat, std_lst, std_rset, std_rcopy, std_shift, std_eqr, std_strOf, std_bytesOf, std_isB, std_zOf, zOf_int, std_isI, isI_int, std_getL, std_nmul, std_sOf, sOf_str, std_isS, isS_str] at *
           exact Dl_ext hc.1 hc.2.1 hc.2.2.1 hc.2.2.2.1 hc.2.2.2.2.1 hc.2.2.2.2.2
         obtain ⟨i', hi'⟩ : ∃ i', i' = i + 1 := ⟨_, rfl⟩
         refine ⟨⟨i', by omega, by rw [hi', ← take_snoc (d := ⟨0, [], 0, 0, [], []⟩) hlt, ← take_snoc (d := ⟨0, [], 0, 0, [], []⟩) (show i < M.length by omega), hz, he]⟩, ?_, show L.length - i' < L.length - i by omega⟩
         cbv
         subst hA
         simp [std_add, std_sub, std_mul, std_quo, std_rem, std_band, std_bor, std_bxor, std_shl, std_shr, std_eq, std_ne, std_lt, std_le, std_conv, std_not, std_beq, std_bne, std_ite, std_want, std_and2, std_sadd, std_seq, std_sne, std_slt, std_sle, std_sgt, std_sge, std_slen, std_sget, std_scut, std_ofNat, std_toNat, std_nsub, std_nadd, std_lenOf, std_nz, std_nneg, std_inb, std_upto, std_slt63, std_grow, std_imp, std_impN, std_tr, std_tb, std_ti, std_ts, std_tn, std_tp, std_nmin, std_makes, std_room, std_zeros, std_nilq, std_notq, std_eqi, std_eqn, std_eqb, std_eqs, std_eqv, std_cat, std_lst, std_rset, std_rcopy, std_shift, std_eqr, std_strOf, std_bytesOf, std_isB, std_zOf, zOf_int, std_isI, isI_int, std_getL, std_nmul, std_sOf, sOf_str, std_isS, isS_str]
         exact (w64 (by omega)).trans (by omega))
      | trace_state
theorem dSame_r {n m : Nat} {f g : Nat → Nat → SV} (hp : (isRow eD ⟨0, [], 0, 0, [], []⟩ 6 n f ∧ isRow eD ⟨0, [], 0, 0, [], []⟩ 6 m g) ∧ n ≤ 1000000) : GoodP Tryd.prog gl0 114 [.slc n 6 f, .slc m 6 g] (.bool (std.tb fun _ => decide (lstOf eD ⟨0, [], 0, 0, [], []⟩ 6 n f = lstOf eD ⟨0, [], 0, 0, [], []⟩ 6 m g))) :=
  good_sv (good_dSame _ _ (by rw [lstOf_length hp.1.1]; exact hp.2)) ⟨hp.1.1.sv, hp.1.2.sv, trivial⟩
theorem dSame_n {n m : Nat} {f g : Nat → Nat → SV} (hp : (isRow eD ⟨0, [], 0, 0, [], []⟩ 6 n f ∧ m = 0) ∧ n ≤ 1000000) : GoodP Tryd.prog gl0 114 [.slc n 6 f, .slc m 1 g] (.bool (std.tb fun _ => decide (lstOf eD ⟨0, [], 0, 0, [], []⟩ 6 n f = []))) :=
  good_svn (good_dSame _ [] (by rw [lstOf_length hp.1.1]; exact hp.2)) ⟨.inl hp.1.1.sv, .inr ⟨hp.1.2, _, _, rfl⟩, trivial⟩
noncomputable def c_dS1 : Ct := fun A args => match args with
  | [.slc n 6 f, .slc m 6 g] => some (some (A.tp fun _ => (isRow eD ⟨0, [], 0, 0, [], []⟩ 6 n f ∧ isRow eD ⟨0, [], 0, 0, [], []⟩ 6 m g) ∧ n ≤ 1000000), .bool (A.tb fun _ => decide (lstOf eD ⟨0, [], 0, 0, [], []⟩ 6 n f = lstOf eD ⟨0, [], 0, 0, [], []⟩ 6 m g)))
  | _ => none
noncomputable def c_dS2 : Ct := fun A args => match args with
  | [.slc n 6 f, .slc m 1 g] => some (some (A.tp fun _ => (isRow eD ⟨0, [], 0, 0, [], []⟩ 6 n f ∧ m = 0) ∧ n ≤ 1000000), .bool (A.tb fun _ => decide (lstOf eD ⟨0, [], 0, 0, [], []⟩ 6 n f = [])))
  | _ => none
theorem c_dS1_ok : ∀ args p r, c_dS1 std args = some (p, r) → holds p → GoodP Tryd.prog gl0 114 args r := by
  intro args p r h hp
  unfold c_dS1 at h
  split at h <;> cases h
  exact dSame_r hp
theorem c_dS2_ok : ∀ args p r, c_dS2 std args = some (p, r) → holds p → GoodP Tryd.prog gl0 114 args r := by
  intro args p r h hp
  unfold c_dS2 at h
  split at h <;> cases h
  exact dSame_n hp
noncomputable def gc7 : Ar → Pu := addC 114 (orD c_dS1 c_dS2) gc6
theorem gc7_ok : PuOk Tryd.prog gl0 (gc7 std) := addC_ok gc6_ok ⟨_, Tryd.func114, rfl, by decide⟩ (orD_ok c_dS1_ok c_dS2_ok)
theorem Stp_eq {S T : Stp} : S = T ↔ (S.e.s = T.e.s ∧ S.e.r = T.e.r ∧ S.e.st = T.e.st ∧ S.e.pan = T.e.pan ∧ S.e.am = T.e.am ∧ S.e.code = T.e.code ∧ S.e.tr = T.e.tr ∧ S.e.ca = T.e.ca) ∧ S.a = T.a ∧ S.i = T.i ∧ S.t = T.t ∧ S.rc = T.rc := by
  rcases S with ⟨⟨_, _, _, _, _, _, _, _⟩, _, _, _, _⟩
  rcases T with ⟨⟨_, _, _, _, _, _, _, _⟩, _, _, _, _⟩
  simp [and_assoc]
theorem good_sSame (S T : Stp) (ha : S.a.length ≤ 1000000) (hi : S.i.length ≤ 1000000) : GoodP Tryd.prog gl0 59 [stepS std fun _ => S, stepS std fun _ => T] (.bool (std.tb fun _ => decide (S = T))) := by
  refine fn_sound' (T := seatT) (G := gc7) (X := noX) seatT_ok gc7_ok noX_ok noI_ok mixed Tryd.func59 (.one) (fun A => [stepS A fun _ => S, stepS A fun _ => T]) (fun A => .bool (A.tb fun _ => decide (S = T))) fun A hA => ?_
  cbv
  repeat' (first | with_reducible exact True.intro | with_reducible exact dr_ok hA (by kernel_rfl) | with_reducible refine And.intro ?_ ?_ | (intro hc; cbv))
  all_goals (subst hA; try simp [-List.getD_eq_getElem?_getD, std_add, std_sub, std_mul, std_quo, std_rem, std_band, std_bor, std_bxor, std_shl, std_shr, std_eq, std_ne, std_lt, std_le, std_conv, std_not, std_beq, std_bne, std_ite, std_want, std_and2, std_sadd, std_seq, std_sne, std_slt, std_sle, std_sgt, std_sge, std_slen, std_sget, std_scut, std_ofNat, std_toNat, std_nsub, std_nadd, std_lenOf, std_nz, std_nneg, std_inb, std_upto, std_slt63, std_grow, std_imp, std_impN, std_tr, std_tb, std_ti, std_ts, std_tn, std_tp, std_nmin, std_makes, std_room, std_zeros, std_nilq, std_notq, std_eqi, std_eqn, std_eqb, std_eqs, std_eqv, std_cat, std_lst, std_rset, std_rcopy, std_shift, std_eqr, std_strOf, std_bytesOf, std_isB, std_zOf, zOf_int, std_isI, isI_int, std_getL, std_nmul, std_sOf, sOf_str, std_isS, isS_str, lstOf_lit inj_eD, isRow_lit] at *)
  all_goals first
    | (intro h1 h2 h3 h4 h5 h6 h7 h8; exact ⟨⟨h1, h2, h3, h4, h5, h6, h7, h8⟩, ha⟩)
    | (intro h1 h2 h3 h4 h5 h6 h7 h8 h9; exact ⟨⟨⟨h1, h2, h3, h4, h5, h6, h7, h8⟩, h9⟩, hi⟩)
    | (rw [Bool.eq_iff_iff]; simp [Stp_eq, and_assoc]; done)
    | trace_state
noncomputable def c_sS0 : Ct := fun A args => match args with
  | [.agg [.int .u32 s, .str r, .int .i64 st, .str pan, .int .u64 am, .str code, .int .i64 tr, .int .i64 ca, .slc n 6 f, .slc n' 6 f', .int .i64 t, .bool rc], .agg [.int .u32 s2, .str r2, .int .i64 st2, .str pan2, .int .u64 am2, .str code2, .int .i64 tr2, .int .i64 ca2, .slc m 1 g, .slc m' 1 g', .int .i64 t2, .bool rc2]] =>
    some (some (A.tp fun _ => ((isRow eD ⟨0, [], 0, 0, [], []⟩ 6 n f ∧ isRow eD ⟨0, [], 0, 0, [], []⟩ 6 n' f') ∧ n ≤ 1000000 ∧ n' ≤ 1000000) ∧ m = 0 ∧ m' = 0), .bool (A.tb fun _ => decide ((⟨⟨s, r, st, pan, am, code, tr, ca⟩, lstOf eD ⟨0, [], 0, 0, [], []⟩ 6 n f, lstOf eD ⟨0, [], 0, 0, [], []⟩ 6 n' f', t, rc⟩ : Stp) = ⟨⟨s2, r2, st2, pan2, am2, code2, tr2, ca2⟩, [], [], t2, rc2⟩)))
  | _ => none
theorem c_sS0_ok : ∀ args p r, c_sS0 std args = some (p, r) → holds p → GoodP Tryd.prog gl0 59 args r := by
  intro args p r h hp
  unfold c_sS0 at h
  split at h <;> cases h
  obtain ⟨⟨⟨h1, h2⟩, h3, h4⟩, h5, h6⟩ := hp
  refine good_svn (good_sSame ⟨⟨_, _, _, _, _, _, _, _⟩, _, _, _, _⟩ ⟨⟨_, _, _, _, _, _, _, _⟩, [], [], _, _⟩ (by rw [lstOf_length h1]; exact h3) (by rw [lstOf_length h2]; exact h4)) ?_
  exact ⟨⟨_, rfl, rfl, rfl, rfl, rfl, rfl, rfl, rfl, rfl, .inl h1.sv, .inl h2.sv, rfl, rfl, trivial⟩, ⟨_, rfl, rfl, rfl, rfl, rfl, rfl, rfl, rfl, rfl, .inr ⟨h5, _, _, rfl⟩, .inr ⟨h6, _, _, rfl⟩, rfl, rfl, trivial⟩, trivial⟩
noncomputable def gc8 : Ar → Pu := addC 59 c_sS0 gc7
theorem gc8_ok : PuOk Tryd.prog gl0 (gc8 std) := addC_ok gc7_ok ⟨_, Tryd.func59, rfl, by decide⟩ c_sS0_ok
end Go.Vd
