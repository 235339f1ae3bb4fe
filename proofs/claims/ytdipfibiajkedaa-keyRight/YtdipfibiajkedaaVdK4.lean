/- The key's functions: shards. -/
import Derived.Test.YtdipfibiajkedaaVdK3
set_option linter.unusedVariables false
set_option linter.unusedSimpArgs false
set_option maxRecDepth 100000
set_option maxHeartbeats 2000000
namespace Go.Vd
open Go.Proofs
theorem good_rPutI {v n : Int} (hv : 0 ≤ v ∧ v < 18446744073709551616) : GoodP Try.prog gl0 43 [.int .u64 v, .int .i64 n] (.tup [.str (std.ts fun _ => pDig v.toNat n), .int .i64 (std.ti fun _ => pErr v.toNat n)]) := by
  have h := good_rPut v.toNat (by omega) n
  have e : ((v.toNat : Nat) : Int) = v := by omega
  rw [e] at h
  exact h
noncomputable def c_rPut : Ct := fun A args => match args with
  | [.int .u64 v, .int .i64 n] => some (some (A.tp fun _ => 0 ≤ v ∧ v < 18446744073709551616), .tup [.str (A.ts fun _ => pDig v.toNat n), .int .i64 (A.ti fun _ => pErr v.toNat n)])
  | _ => none
noncomputable def gk6 : Ar → Pu := addC 43 c_rPut (gk5)
theorem gk6_ok : PuOk Try.prog gl0 (gk6 std) := by
  refine addC_ok (gk5_ok) ⟨_, Try.func43, rfl, by decide⟩ ?_
  · intro args p r h hp
    unfold c_rPut at h
    split at h <;> cases h
    exact good_rPutI hp
theorem good_rMust (v n : Int) (hv : 0 ≤ v ∧ v < 18446744073709551616) : GoodP Try.prog gl0 36 [.int .u64 v, .int .i64 n] (.str (std.ts fun _ => pDig v.toNat n)) := by
  refine fn_sound' (T := seatT) (G := gk6) (X := noX) seatT_ok gk6_ok noX_ok noI_ok mixed Try.func36 (.one) (fun A => [.int .u64 v, .int .i64 n]) (fun A => .str (A.ts fun _ => pDig v.toNat n)) fun A hA => ?_
  cbv
  repeat' (first | with_reducible exact True.intro | with_reducible exact dr_ok hA (by kernel_rfl) | with_reducible refine And.intro ?_ ?_ | (intro hc; cbv))
  all_goals (subst hA; simp [std_add, std_sub, std_mul, std_quo, std_rem, std_band, std_bor, std_bxor, std_shl, std_shr, std_eq, std_ne, std_lt, std_le, std_conv, std_not, std_beq, std_bne, std_ite, std_want, std_and2, std_sadd, std_seq, std_sne, std_slt, std_sle, std_sgt, std_sge, std_slen, std_sget, std_scut, std_ofNat, std_toNat, std_nsub, std_nadd, std_lenOf, std_nz, std_nneg, std_inb, std_upto, std_slt63, std_grow, std_imp, std_impN, std_tr, std_tb, std_ti, std_ts, std_tn, std_tp, std_nmin, std_makes, std_room, std_zeros, std_nilq, std_notq, std_eqi, std_eqn, std_eqb, std_eqs, std_eqv, std_cat, std_lst, std_rset, std_rcopy, std_shift, std_eqr, std_strOf, std_bytesOf, std_isB, std_zOf, zOf_int, std_isI, isI_int] at *)
  exact hv
noncomputable def c_rMust : Ct := fun A args => match args with
  | [.int .u64 v, .int .i64 n] => some (some (A.tp fun _ => 0 ≤ v ∧ v < 18446744073709551616), .str (A.ts fun _ => pDig v.toNat n))
  | _ => none
noncomputable def c_kMix : Ct := fun A args => match args with
  | [.int .u32 h, .int .u8 b] => some (none, .int .u32 (A.ti fun _ => mixI h b))
  | _ => none
noncomputable def c_kRight : Ct := fun A args => match args with
  | [.agg [.int .u32 s, .str r]] => some (none, .bool (A.tb fun _ => keyOk s r))
  | _ => none
noncomputable def c_rkRight : Ct := fun A args => match args with
  | [.agg [.int .u32 s, .str r]] => some (some (A.tp fun _ => r.length ≤ 1000000), .bool (A.tb fun _ => keyOk s r))
  | _ => none
noncomputable def gk7 : Ar → Pu := addC 36 c_rMust (addC 35 c_kMix (addC 20 c_kRight (addC 21 c_rkRight (gk6))))
theorem gk7_ok : PuOk Try.prog gl0 (gk7 std) := by
  refine addC_ok (addC_ok (addC_ok (addC_ok (gk6_ok) ⟨_, Try.func21, rfl, by decide⟩ ?_) ⟨_, Try.func20, rfl, by decide⟩ ?_) ⟨_, Try.func35, rfl, by decide⟩ ?_) ⟨_, Try.func36, rfl, by decide⟩ ?_
  · intro args p r h hp
    unfold c_rkRight at h
    split at h <;> cases h
    exact good_rkRight _ _ hp
  · intro args p r h hp
    unfold c_kRight at h
    split at h <;> cases h
    exact good_kRight _ _
  · intro args p r h hp
    unfold c_kMix at h
    split at h <;> cases h
    exact good_kMix _ _
  · intro args p r h hp
    unfold c_rMust at h
    split at h <;> cases h
    exact good_rMust _ _ hp
def shardI (s : Int) (r : List UInt8) (m : Int) : Int := if keyOk s r = true ∧ 1 ≤ m ∧ m ≤ 16 then ((fnv (decs 6 s.toNat ++ r) % m.toNat : Nat) : Int) else -1
theorem pDig6 {s : Int} (h : s ≤ 999999) : pDig s.toNat 6 = decs 6 s.toNat := (pDig_ok (n := 6) (by omega) (by rw [show (6 : Int).toNat = 6 from rfl]; omega)).1
theorem keyOk_le {s : Int} {r : List UInt8} (h : keyOk s r = true) : s ≤ 999999 ∧ r.length = 12 := by
  simp [keyOk] at h
  exact ⟨h.1, h.2.1⟩
theorem fnv_take {S : List UInt8} {i : Nat} (h : i < S.length) : fnv (S.take (i + 1)) = fnv1 (fnv (S.take i)) (S.getD i 0) := by
  rw [← take_snoc (d := 0) h, fnv_snoc]
theorem fnv64 (L : List UInt8) (b : UInt8) : (IntKind.u64.wrap (bits .xor .u64 (fnv L : Int) (IntKind.u64.wrap (b.toNat : Int)) * 16777619)).tmod 4294967296 = (fnv1 (fnv L) b : Int) := by
  have hb := b.toNat_lt
  have hx := xor_lt b (fnv_lt L)
  rw [wU64 (n := (b.toNat : Int)) (by omega), xor64 b (fnv_lt L), wU64 (by omega), Int.tmod_eq_emod_of_nonneg (by omega), fnv1]
  omega
theorem modM {h : Nat} {m : Int} (hh : h < 4294967296) (hm : 1 ≤ m ∧ m ≤ 16) : ((h % m.toNat : Nat) : Int) = (h : Int) % m ∧ 0 ≤ (h : Int) % m ∧ (h : Int) % m < 16 := by
  have h1 := Int.emod_nonneg (h : Int) (b := m) (by omega)
  have h2 := Int.emod_lt_of_pos (h : Int) (b := m) (by omega)
  refine ⟨?_, h1, by omega⟩
  rw [Int.natCast_emod, show ((m.toNat : Nat) : Int) = m by omega]
theorem good_rkShard (s m : Int) (r : List UInt8) (hs : 0 ≤ s ∧ s < 4294967296) (hr : r.length ≤ 1000000) : GoodP Try.prog gl0 25 [sKey std s r, .int .i64 m] (.int .i64 (std.ti fun _ => shardI s r m)) := by
  refine fn_sound' (T := seatT) (G := gk7) (X := noX) seatT_ok gk7_ok noX_ok noI_ok mixed Try.func25 (.one) (fun A => [sKey A s r, .int .i64 m]) (fun A => .int .i64 (A.ti fun _ => shardI s r m)) fun A hA => ?_
  cbv
  repeat' (first | with_reducible exact True.intro | with_reducible exact dr_ok hA (by kernel_rfl) | with_reducible refine And.intro ?_ ?_ | (intro hc; cbv))
  rotate_right
  · have hk : keyOk s r = true ∧ 1 ≤ m ∧ m ≤ 16 := by subst hA; simp [std_add, std_sub, std_mul, std_quo, std_rem, std_band, std_bor, std_bxor, std_shl, std_shr, std_eq, std_ne, std_lt, std_le, std_conv, std_not, std_beq, std_bne, std_ite, std_want, std_and2, std_sadd, std_seq, std_sne, std_slt, std_sle, std_sgt, std_sge, std_slen, std_sget, std_scut, std_ofNat, std_toNat, std_nsub, std_nadd, std_lenOf, std_nz, std_nneg, std_inb, std_upto, std_slt63, std_grow, std_imp, std_impN, std_tr, std_tb, std_ti, std_ts, std_tn, std_tp, std_nmin, std_makes, std_room, std_zeros, std_nilq, std_notq, std_eqi, std_eqn, std_eqb, std_eqs, std_eqv, std_cat, std_lst, std_rset, std_rcopy, std_shift, std_eqr, std_strOf, std_bytesOf, std_isB, std_zOf, zOf_int, std_isI, isI_int] at hc; exact ⟨hc.1.1, hc.1.2, hc.2⟩
    have hs9 := keyOk_le hk.1
    obtain ⟨S, hS⟩ : ∃ S, S = pDig s.toNat 6 ++ r := ⟨_, rfl⟩
    have hSl : S.length = 18 := by rw [hS, pDig6 hs9.1, List.length_append, decs_len, hs9.2]
    refine ⟨⟨{p : Nat × Nat // p.1 ≤ S.length ∧ p.2 = fnv (S.take p.1)}, fun b p => [(5, .str S), (6, .int .u64 (p.1.2 : Nat)), (7, .int .i64 (p.1.1 : Nat))], fun b p => [], fun p => S.length - p.1.1, true⟩, ⟨⟨(0, 2166136261), by omega, rfl⟩, ?_⟩, ?_⟩
    · cbv
      subst hA
      simp [std_add, std_sub, std_mul, std_quo, std_rem, std_band, std_bor, std_bxor, std_shl, std_shr, std_eq, std_ne, std_lt, std_le, std_conv, std_not, std_beq, std_bne, std_ite, std_want, std_and2, std_sadd, std_seq, std_sne, std_slt, std_sle, std_sgt, std_sge, std_slen, std_sget, std_scut, std_ofNat, std_toNat, std_nsub, std_nadd, std_lenOf, std_nz, std_nneg, std_inb, std_upto, std_slt63, std_grow, std_imp, std_impN, std_tr, std_tb, std_ti, std_ts, std_tn, std_tp, std_nmin, std_makes, std_room, std_zeros, std_nilq, std_notq, std_eqi, std_eqn, std_eqb, std_eqs, std_eqv, std_cat, std_lst, std_rset, std_rcopy, std_shift, std_eqr, std_strOf, std_bytesOf, std_isB, std_zOf, zOf_int, std_isI, isI_int, hS]
      rw [wU64 (by omega)]
    · rintro ⟨⟨i, h⟩, hi, hh⟩
      simp only at hi hh
      cbv
      repeat' (first | with_reducible exact True.intro | with_reducible exact dr_ok hA (by kernel_rfl) | with_reducible refine And.intro ?_ ?_ | (intro hc; cbv))
      all_goals first
        | (fail_if_success (refine Exists.intro ?_ ?_)
           subst hA
           simp [-List.getD_eq_getElem?_getD, std_add, std_sub, std_mul, std_quo, std_rem, std_band, std_bor, std_bxor, std_shl, std_shr, std_eq, std_ne, std_lt, std_le, std_conv, std_not, std_beq, std_bne, std_ite, std_want, std_and2, std_sadd, std_seq, std_sne, std_slt, std_sle, std_sgt, std_sge, std_slen, std_sget, std_scut, std_ofNat, std_toNat, std_nsub, std_nadd, std_lenOf, std_nz, std_nneg, std_inb, std_upto, std_slt63, std_grow, std_imp, std_impN, std_tr, std_tb, std_ti, std_ts, std_tn, std_tp, std_nmin, std_makes, std_room, std_zeros, std_nilq, std_notq, std_eqi, std_eqn, std_eqb, std_eqs, std_eqv, std_cat, std_lst, std_rset, std_rcopy, std_shift, std_eqr, std_strOf, std_bytesOf, std_isB, std_zOf, zOf_int, std_isI, isI_int] at *
           done)
        | (fail_if_success (refine Exists.intro ?_ ?_)
           clear hh
           subst hA
           simp [-List.getD_eq_getElem?_getD, std_add, std_sub, std_mul, std_quo, std_rem, std_band, std_bor, std_bxor, std_shl, std_shr, std_eq, std_ne, std_lt, std_le, std_conv, std_not, std_beq, std_bne, std_ite, std_want, std_and2, std_sadd, std_seq, std_sne, std_slt, std_sle, std_sgt, std_sge, std_slen, std_sget, std_scut, std_ofNat, std_toNat, std_nsub, std_nadd, std_lenOf, std_nz, std_nneg, std_inb, std_upto, std_slt63, std_grow, std_imp, std_impN, std_tr, std_tb, std_ti, std_ts, std_tn, std_tp, std_nmin, std_makes, std_room, std_zeros, std_nilq, std_notq, std_eqi, std_eqn, std_eqb, std_eqs, std_eqv, std_cat, std_lst, std_rset, std_rcopy, std_shift, std_eqr, std_strOf, std_bytesOf, std_isB, std_zOf, zOf_int, std_isI, isI_int] at *
           first
             | omega
             | (rw [wU64 (by omega)]; omega))
        | (fail_if_success (refine Exists.intro ?_ ?_)
           have hie : i = S.length := by (clear hh; subst hA; simp [std_add, std_sub, std_mul, std_quo, std_rem, std_band, std_bor, std_bxor, std_shl, std_shr, std_eq, std_ne, std_lt, std_le, std_conv, std_not, std_beq, std_bne, std_ite, std_want, std_and2, std_sadd, std_seq, std_sne, std_slt, std_sle, std_sgt, std_sge, std_slen, std_sget, std_scut, std_ofNat, std_toNat, std_nsub, std_nadd, std_lenOf, std_nz, std_nneg, std_inb, std_upto, std_slt63, std_grow, std_imp, std_impN, std_tr, std_tb, std_ti, std_ts, std_tn, std_tp, std_nmin, std_makes, std_room, std_zeros, std_nilq, std_notq, std_eqi, std_eqn, std_eqb, std_eqs, std_eqv, std_cat, std_lst, std_rset, std_rcopy, std_shift, std_eqr, std_strOf, std_bytesOf, std_isB, std_zOf, zOf_int, std_isI, isI_int] at *; omega)
           rw [hie, List.take_length, hS, pDig6 hs9.1] at hh
           have hb := fnv_lt (decs 6 s.toNat ++ r)
           have hq := modM hb hk.2
           subst hA
           simp only [std_add, std_sub, std_mul, std_quo, std_rem, std_band, std_bor, std_bxor, std_shl, std_shr, std_eq, std_ne, std_lt, std_le, std_conv, std_not, std_beq, std_bne, std_ite, std_want, std_and2, std_sadd, std_seq, std_sne, std_slt, std_sle, std_sgt, std_sge, std_slen, std_sget, std_scut, std_ofNat, std_toNat, std_nsub, std_nadd, std_lenOf, std_nz, std_nneg, std_inb, std_upto, std_slt63, std_grow, std_imp, std_impN, std_tr, std_tb, std_ti, std_ts, std_tn, std_tp, std_nmin, std_makes, std_room, std_zeros, std_nilq, std_notq, std_eqi, std_eqn, std_eqb, std_eqs, std_eqv, std_cat, std_lst, std_rset, std_rcopy, std_shift, std_eqr, std_strOf, std_bytesOf, std_isB, std_zOf, zOf_int, std_isI, isI_int, Int.ofNat_eq_natCast]
           rw [wU64 (by omega), Int.tmod_eq_emod_of_nonneg (by omega), shardI, if_pos hk, hq.1, hh, w64 (by omega)])
        | skip
      · have hlt : i < S.length := by clear hh; subst hA; simp [std_add, std_sub, std_mul, std_quo, std_rem, std_band, std_bor, std_bxor, std_shl, std_shr, std_eq, std_ne, std_lt, std_le, std_conv, std_not, std_beq, std_bne, std_ite, std_want, std_and2, std_sadd, std_seq, std_sne, std_slt, std_sle, std_sgt, std_sge, std_slen, std_sget, std_scut, std_ofNat, std_toNat, std_nsub, std_nadd, std_lenOf, std_nz, std_nneg, std_inb, std_upto, std_slt63, std_grow, std_imp, std_impN, std_tr, std_tb, std_ti, std_ts, std_tn, std_tp, std_nmin, std_makes, std_room, std_zeros, std_nilq, std_notq, std_eqi, std_eqn, std_eqb, std_eqs, std_eqv, std_cat, std_lst, std_rset, std_rcopy, std_shift, std_eqr, std_strOf, std_bytesOf, std_isB, std_zOf, zOf_int, std_isI, isI_int] at *; omega
        obtain ⟨i', hi'⟩ : ∃ i', i' = i + 1 := ⟨_, rfl⟩
        obtain ⟨h', hh'⟩ : ∃ h', h' = fnv1 (fnv (S.take i)) (S.getD i 0) := ⟨_, rfl⟩
        refine ⟨⟨(i', h'), by omega, by rw [hi', fnv_take hlt]; exact hh'⟩, ?_, show S.length - i' < S.length - i by omega⟩
        cbv
        subst hA
        simp [-List.getD_eq_getElem?_getD, std_add, std_sub, std_mul, std_quo, std_rem, std_band, std_bor, std_bxor, std_shl, std_shr, std_eq, std_ne, std_lt, std_le, std_conv, std_not, std_beq, std_bne, std_ite, std_want, std_and2, std_sadd, std_seq, std_sne, std_slt, std_sle, std_sgt, std_sge, std_slen, std_sget, std_scut, std_ofNat, std_toNat, std_nsub, std_nadd, std_lenOf, std_nz, std_nneg, std_inb, std_upto, std_slt63, std_grow, std_imp, std_impN, std_tr, std_tb, std_ti, std_ts, std_tn, std_tp, std_nmin, std_makes, std_room, std_zeros, std_nilq, std_notq, std_eqi, std_eqn, std_eqb, std_eqs, std_eqv, std_cat, std_lst, std_rset, std_rcopy, std_shift, std_eqr, std_strOf, std_bytesOf, std_isB, std_zOf, zOf_int, std_isI, isI_int, gD]
        exact ⟨by rw [hh, hh']; exact fnv64 _ _, (w64 (by omega)).trans (by omega)⟩
  all_goals (subst hA; simp [std_add, std_sub, std_mul, std_quo, std_rem, std_band, std_bor, std_bxor, std_shl, std_shr, std_eq, std_ne, std_lt, std_le, std_conv, std_not, std_beq, std_bne, std_ite, std_want, std_and2, std_sadd, std_seq, std_sne, std_slt, std_sle, std_sgt, std_sge, std_slen, std_sget, std_scut, std_ofNat, std_toNat, std_nsub, std_nadd, std_lenOf, std_nz, std_nneg, std_inb, std_upto, std_slt63, std_grow, std_imp, std_impN, std_tr, std_tb, std_ti, std_ts, std_tn, std_tp, std_nmin, std_makes, std_room, std_zeros, std_nilq, std_notq, std_eqi, std_eqn, std_eqb, std_eqs, std_eqv, std_cat, std_lst, std_rset, std_rcopy, std_shift, std_eqr, std_strOf, std_bytesOf, std_isB, std_zOf, zOf_int, std_isI, isI_int] at *)
  all_goals first
    | exact hr
    | (rw [shardI, if_neg (fun h => by rcases hc with (hc | hc) | hc; (rw [h.1] at hc; cases hc); omega; omega)]; done)
    | (rw [wU64 (by omega)]; omega)
    | (have := keyOk_le hc.1.1
       rw [wU64 (by omega), pDig6 this.1, decs_len]; omega)
    | trace_state
def uO (j : Nat) : Nat := if j < 6 then 10 ^ (5 - j) else 0
theorem six {j : Nat} (h : j ≤ 6) : j = 0 ∨ j = 1 ∨ j = 2 ∨ j = 3 ∨ j = 4 ∨ j = 5 ∨ j = 6 := by omega
theorem uO_pos {j : Nat} (h : j ≤ 6) : (0 < uO j ↔ j < 6) ∧ uO j ≤ 100000 := by
  rcases six h with h | h | h | h | h | h | h <;> subst h <;> simp [uO]
theorem uO_step {j : Nat} (h : j < 6) : IntKind.u32.wrap ((uO j : Int).tdiv 10) = (uO (j + 1) : Int) := by
  rcases six (Nat.le_of_lt h) with h | h | h | h | h | h | h <;> subst h <;> first | rfl | omega
theorem uO_step2 {j : Nat} (h : j < 6) : IntKind.u32.wrap ((uO j : Int) / 10) = (uO (j + 1) : Int) := by
  rcases six (Nat.le_of_lt h) with h | h | h | h | h | h | h <;> subst h <;> first | rfl | omega
theorem wU32 {n : Int} (h : 0 ≤ n ∧ n < 4294967296) : IntKind.u32.wrap n = n := by rw [IntKind.wrap_u32]; omega
theorem kdig {s : Int} (hs : 0 ≤ s ∧ s ≤ 999999) {j : Nat} (h : j < 6) : IntKind.u8.wrap (IntKind.u32.wrap (48 + (IntKind.u32.wrap (s.tdiv (uO j : Int))).tmod 10)) = (((decs 6 s.toNat).getD j 0).toNat : Int) := by
  rw [decs_getD h, Int.tdiv_eq_ediv_of_nonneg hs.1]
  obtain ⟨n, rfl⟩ : ∃ n : Nat, s = n := ⟨s.toNat, by omega⟩
  rw [Int.toNat_natCast]
  have e : uO j = 10 ^ (5 - j) := if_pos h
  have hd : n / uO j ≤ n := Nat.div_le_self _ _
  rw [← Int.natCast_ediv]
  rw [← e]
  generalize n / uO j = q at hd ⊢
  rw [wU32 (n := (q : Int)) (by omega), Int.tmod_eq_emod_of_nonneg (by omega), IntKind.wrap_u32, IntKind.wrap_u8, UInt8.toNat_ofNat']
  omega
theorem good_kShard (s m : Int) (r : List UInt8) (hs : 0 ≤ s ∧ s < 4294967296) : GoodP Try.prog gl0 24 [sKey std s r, .int .i64 m] (.int .i64 (std.ti fun _ => shardI s r m)) := by
  refine fn_sound' (T := seatT) (G := gk7) (X := noX) seatT_ok gk7_ok noX_ok noI_ok mixed Try.func24 (.one) (fun A => [sKey A s r, .int .i64 m]) (fun A => .int .i64 (A.ti fun _ => shardI s r m)) fun A hA => ?_
  cbv
  repeat' (first | with_reducible exact True.intro | with_reducible exact dr_ok hA (by kernel_rfl) | with_reducible refine And.intro ?_ ?_ | (intro hc; cbv))
  rotate_right
  · have hk : keyOk s r = true ∧ 1 ≤ m ∧ m ≤ 16 := by subst hA; simp [std_add, std_sub, std_mul, std_quo, std_rem, std_band, std_bor, std_bxor, std_shl, std_shr, std_eq, std_ne, std_lt, std_le, std_conv, std_not, std_beq, std_bne, std_ite, std_want, std_and2, std_sadd, std_seq, std_sne, std_slt, std_sle, std_sgt, std_sge, std_slen, std_sget, std_scut, std_ofNat, std_toNat, std_nsub, std_nadd, std_lenOf, std_nz, std_nneg, std_inb, std_upto, std_slt63, std_grow, std_imp, std_impN, std_tr, std_tb, std_ti, std_ts, std_tn, std_tp, std_nmin, std_makes, std_room, std_zeros, std_nilq, std_notq, std_eqi, std_eqn, std_eqb, std_eqs, std_eqv, std_cat, std_lst, std_rset, std_rcopy, std_shift, std_eqr, std_strOf, std_bytesOf, std_isB, std_zOf, zOf_int, std_isI, isI_int] at hc; exact ⟨hc.1.1, hc.1.2, hc.2⟩
    have hs9 := keyOk_le hk.1
    obtain ⟨D, hD⟩ : ∃ D, D = decs 6 s.toNat := ⟨_, rfl⟩
    have hDl : D.length = 6 := by rw [hD, decs_len]
    refine ⟨⟨{p : Nat × Nat × Nat // p.1 ≤ 6 ∧ p.2.1 = uO p.1 ∧ p.2.2 = fnv (D.take p.1)}, fun b p => [(5, .int .u32 (p.1.2.2 : Nat)), (6, .int .u32 (p.1.2.1 : Nat))], fun b p => [], fun p => 6 - p.1.1, true⟩, ⟨⟨(0, 100000, 2166136261), by omega, rfl, rfl⟩, ?_⟩, ?_⟩
    · cbv
      subst hA
      simp [std_add, std_sub, std_mul, std_quo, std_rem, std_band, std_bor, std_bxor, std_shl, std_shr, std_eq, std_ne, std_lt, std_le, std_conv, std_not, std_beq, std_bne, std_ite, std_want, std_and2, std_sadd, std_seq, std_sne, std_slt, std_sle, std_sgt, std_sge, std_slen, std_sget, std_scut, std_ofNat, std_toNat, std_nsub, std_nadd, std_lenOf, std_nz, std_nneg, std_inb, std_upto, std_slt63, std_grow, std_imp, std_impN, std_tr, std_tb, std_ti, std_ts, std_tn, std_tp, std_nmin, std_makes, std_room, std_zeros, std_nilq, std_notq, std_eqi, std_eqn, std_eqb, std_eqs, std_eqv, std_cat, std_lst, std_rset, std_rcopy, std_shift, std_eqr, std_strOf, std_bytesOf, std_isB, std_zOf, zOf_int, std_isI, isI_int]
    · rintro ⟨⟨j, u, h⟩, hj, hu, hh⟩
      simp only at hj hu hh
      have hup := uO_pos hj
      cbv
      repeat' (first | with_reducible exact True.intro | with_reducible exact dr_ok hA (by kernel_rfl) | with_reducible refine And.intro ?_ ?_ | (intro hc; cbv))
      all_goals first
        | (fail_if_success (refine Exists.intro ?_ ?_)
           clear hh hu
           subst hA
           simp [std_add, std_sub, std_mul, std_quo, std_rem, std_band, std_bor, std_bxor, std_shl, std_shr, std_eq, std_ne, std_lt, std_le, std_conv, std_not, std_beq, std_bne, std_ite, std_want, std_and2, std_sadd, std_seq, std_sne, std_slt, std_sle, std_sgt, std_sge, std_slen, std_sget, std_scut, std_ofNat, std_toNat, std_nsub, std_nadd, std_lenOf, std_nz, std_nneg, std_inb, std_upto, std_slt63, std_grow, std_imp, std_impN, std_tr, std_tb, std_ti, std_ts, std_tn, std_tp, std_nmin, std_makes, std_room, std_zeros, std_nilq, std_notq, std_eqi, std_eqn, std_eqb, std_eqs, std_eqv, std_cat, std_lst, std_rset, std_rcopy, std_shift, std_eqr, std_strOf, std_bytesOf, std_isB, std_zOf, zOf_int, std_isI, isI_int] at *
           done)
        | (fail_if_success (refine Exists.intro ?_ ?_)
           clear hh
           subst hA
           simp [std_add, std_sub, std_mul, std_quo, std_rem, std_band, std_bor, std_bxor, std_shl, std_shr, std_eq, std_ne, std_lt, std_le, std_conv, std_not, std_beq, std_bne, std_ite, std_want, std_and2, std_sadd, std_seq, std_sne, std_slt, std_sle, std_sgt, std_sge, std_slen, std_sget, std_scut, std_ofNat, std_toNat, std_nsub, std_nadd, std_lenOf, std_nz, std_nneg, std_inb, std_upto, std_slt63, std_grow, std_imp, std_impN, std_tr, std_tb, std_ti, std_ts, std_tn, std_tp, std_nmin, std_makes, std_room, std_zeros, std_nilq, std_notq, std_eqi, std_eqn, std_eqb, std_eqs, std_eqv, std_cat, std_lst, std_rset, std_rcopy, std_shift, std_eqr, std_strOf, std_bytesOf, std_isB, std_zOf, zOf_int, std_isI, isI_int] at *
           omega)
        | skip
      · have hlt : j < 6 := by rw [hu] at hc; clear hh; subst hA; exact hup.1.1 (by simpa [std_add, std_sub, std_mul, std_quo, std_rem, std_band, std_bor, std_bxor, std_shl, std_shr, std_eq, std_ne, std_lt, std_le, std_conv, std_not, std_beq, std_bne, std_ite, std_want, std_and2, std_sadd, std_seq, std_sne, std_slt, std_sle, std_sgt, std_sge, std_slen, std_sget, std_scut, std_ofNat, std_toNat, std_nsub, std_nadd, std_lenOf, std_nz, std_nneg, std_inb, std_upto, std_slt63, std_grow, std_imp, std_impN, std_tr, std_tb, std_ti, std_ts, std_tn, std_tp, std_nmin, std_makes, std_room, std_zeros, std_nilq, std_notq, std_eqi, std_eqn, std_eqb, std_eqs, std_eqv, std_cat, std_lst, std_rset, std_rcopy, std_shift, std_eqr, std_strOf, std_bytesOf, std_isB, std_zOf, zOf_int, std_isI, isI_int] using hc)
        obtain ⟨j', hj'⟩ : ∃ j', j' = j + 1 := ⟨_, rfl⟩
        obtain ⟨u', hu'⟩ : ∃ u', u' = uO j' := ⟨_, rfl⟩
        obtain ⟨h', hh'⟩ : ∃ h', h' = fnv (D.take j') := ⟨_, rfl⟩
        refine ⟨⟨(j', u', h'), by omega, hu', hh'⟩, ?_, show 6 - j' < 6 - j by omega⟩
        cbv
        subst hA
        simp [-List.getD_eq_getElem?_getD, std_add, std_sub, std_mul, std_quo, std_rem, std_band, std_bor, std_bxor, std_shl, std_shr, std_eq, std_ne, std_lt, std_le, std_conv, std_not, std_beq, std_bne, std_ite, std_want, std_and2, std_sadd, std_seq, std_sne, std_slt, std_sle, std_sgt, std_sge, std_slen, std_sget, std_scut, std_ofNat, std_toNat, std_nsub, std_nadd, std_lenOf, std_nz, std_nneg, std_inb, std_upto, std_slt63, std_grow, std_imp, std_impN, std_tr, std_tb, std_ti, std_ts, std_tn, std_tp, std_nmin, std_makes, std_room, std_zeros, std_nilq, std_notq, std_eqi, std_eqn, std_eqb, std_eqs, std_eqv, std_cat, std_lst, std_rset, std_rcopy, std_shift, std_eqr, std_strOf, std_bytesOf, std_isB, std_zOf, zOf_int, std_isI, isI_int]
        have e1 := kdig (s := s) ⟨hs.1, hs9.1⟩ hlt
        rw [← hu, ← hD] at e1
        refine ⟨?_, ?_⟩
        · rw [e1, hh, mixI_fnv, hh', hj', take_snoc (by omega)]
        · rw [hu, hu', hj']; exact uO_step2 hlt
      · have hje : j = 6 := by rw [hu] at hc; clear hh; subst hA; (have h5 : uO j = 0 := by simpa [std_add, std_sub, std_mul, std_quo, std_rem, std_band, std_bor, std_bxor, std_shl, std_shr, std_eq, std_ne, std_lt, std_le, std_conv, std_not, std_beq, std_bne, std_ite, std_want, std_and2, std_sadd, std_seq, std_sne, std_slt, std_sle, std_sgt, std_sge, std_slen, std_sget, std_scut, std_ofNat, std_toNat, std_nsub, std_nadd, std_lenOf, std_nz, std_nneg, std_inb, std_upto, std_slt63, std_grow, std_imp, std_impN, std_tr, std_tb, std_ti, std_ts, std_tn, std_tp, std_nmin, std_makes, std_room, std_zeros, std_nilq, std_notq, std_eqi, std_eqn, std_eqb, std_eqs, std_eqv, std_cat, std_lst, std_rset, std_rcopy, std_shift, std_eqr, std_strOf, std_bytesOf, std_isB, std_zOf, zOf_int, std_isI, isI_int] using hc); (rcases Nat.lt_or_ge j 6 with h4 | h4; (have := hup.1.2 h4; omega); omega)
        rw [hje, List.take_of_length_le (by omega)] at hh
        refine ⟨⟨{p : Nat × Nat // p.1 ≤ r.length ∧ p.2 = fnv (D ++ r.take p.1)}, fun b p => [(5, .int .u32 (p.1.2 : Nat)), (35, .int .i64 (p.1.1 : Nat))], fun b p => [], fun p => r.length - p.1.1, true⟩, ⟨⟨(0, h), by omega, by rw [hh]; simp⟩, ?_⟩, ?_⟩
        · cbv
          subst hA
          simp [std_add, std_sub, std_mul, std_quo, std_rem, std_band, std_bor, std_bxor, std_shl, std_shr, std_eq, std_ne, std_lt, std_le, std_conv, std_not, std_beq, std_bne, std_ite, std_want, std_and2, std_sadd, std_seq, std_sne, std_slt, std_sle, std_sgt, std_sge, std_slen, std_sget, std_scut, std_ofNat, std_toNat, std_nsub, std_nadd, std_lenOf, std_nz, std_nneg, std_inb, std_upto, std_slt63, std_grow, std_imp, std_impN, std_tr, std_tb, std_ti, std_ts, std_tn, std_tp, std_nmin, std_makes, std_room, std_zeros, std_nilq, std_notq, std_eqi, std_eqn, std_eqb, std_eqs, std_eqv, std_cat, std_lst, std_rset, std_rcopy, std_shift, std_eqr, std_strOf, std_bytesOf, std_isB, std_zOf, zOf_int, std_isI, isI_int]
        · rintro ⟨⟨i, g⟩, hi, hg⟩
          simp only at hi hg
          cbv
          repeat' (first | with_reducible exact True.intro | with_reducible exact dr_ok hA (by kernel_rfl) | with_reducible refine And.intro ?_ ?_ | (intro hc; cbv))
          all_goals first
            | (fail_if_success (refine Exists.intro ?_ ?_)
               clear hg hu
               subst hA
               simp [std_add, std_sub, std_mul, std_quo, std_rem, std_band, std_bor, std_bxor, std_shl, std_shr, std_eq, std_ne, std_lt, std_le, std_conv, std_not, std_beq, std_bne, std_ite, std_want, std_and2, std_sadd, std_seq, std_sne, std_slt, std_sle, std_sgt, std_sge, std_slen, std_sget, std_scut, std_ofNat, std_toNat, std_nsub, std_nadd, std_lenOf, std_nz, std_nneg, std_inb, std_upto, std_slt63, std_grow, std_imp, std_impN, std_tr, std_tb, std_ti, std_ts, std_tn, std_tp, std_nmin, std_makes, std_room, std_zeros, std_nilq, std_notq, std_eqi, std_eqn, std_eqb, std_eqs, std_eqv, std_cat, std_lst, std_rset, std_rcopy, std_shift, std_eqr, std_strOf, std_bytesOf, std_isB, std_zOf, zOf_int, std_isI, isI_int] at *
               done)
            | (fail_if_success (refine Exists.intro ?_ ?_)
               clear hg hu
               subst hA
               simp [std_add, std_sub, std_mul, std_quo, std_rem, std_band, std_bor, std_bxor, std_shl, std_shr, std_eq, std_ne, std_lt, std_le, std_conv, std_not, std_beq, std_bne, std_ite, std_want, std_and2, std_sadd, std_seq, std_sne, std_slt, std_sle, std_sgt, std_sge, std_slen, std_sget, std_scut, std_ofNat, std_toNat, std_nsub, std_nadd, std_lenOf, std_nz, std_nneg, std_inb, std_upto, std_slt63, std_grow, std_imp, std_impN, std_tr, std_tb, std_ti, std_ts, std_tn, std_tp, std_nmin, std_makes, std_room, std_zeros, std_nilq, std_notq, std_eqi, std_eqn, std_eqb, std_eqs, std_eqv, std_cat, std_lst, std_rset, std_rcopy, std_shift, std_eqr, std_strOf, std_bytesOf, std_isB, std_zOf, zOf_int, std_isI, isI_int] at *
               first
                 | omega
                 | (rw [wU32 (by omega)]; omega))
            | skip
          · have hlt : i < r.length := by clear hg; subst hA; simp [std_add, std_sub, std_mul, std_quo, std_rem, std_band, std_bor, std_bxor, std_shl, std_shr, std_eq, std_ne, std_lt, std_le, std_conv, std_not, std_beq, std_bne, std_ite, std_want, std_and2, std_sadd, std_seq, std_sne, std_slt, std_sle, std_sgt, std_sge, std_slen, std_sget, std_scut, std_ofNat, std_toNat, std_nsub, std_nadd, std_lenOf, std_nz, std_nneg, std_inb, std_upto, std_slt63, std_grow, std_imp, std_impN, std_tr, std_tb, std_ti, std_ts, std_tn, std_tp, std_nmin, std_makes, std_room, std_zeros, std_nilq, std_notq, std_eqi, std_eqn, std_eqb, std_eqs, std_eqv, std_cat, std_lst, std_rset, std_rcopy, std_shift, std_eqr, std_strOf, std_bytesOf, std_isB, std_zOf, zOf_int, std_isI, isI_int] at *; omega
            obtain ⟨i', hi'⟩ : ∃ i', i' = i + 1 := ⟨_, rfl⟩
            obtain ⟨g', hg'⟩ : ∃ g', g' = fnv (D ++ r.take i') := ⟨_, rfl⟩
            refine ⟨⟨(i', g'), by omega, hg'⟩, ?_, show r.length - i' < r.length - i by omega⟩
            cbv
            subst hA
            simp [-List.getD_eq_getElem?_getD, std_add, std_sub, std_mul, std_quo, std_rem, std_band, std_bor, std_bxor, std_shl, std_shr, std_eq, std_ne, std_lt, std_le, std_conv, std_not, std_beq, std_bne, std_ite, std_want, std_and2, std_sadd, std_seq, std_sne, std_slt, std_sle, std_sgt, std_sge, std_slen, std_sget, std_scut, std_ofNat, std_toNat, std_nsub, std_nadd, std_lenOf, std_nz, std_nneg, std_inb, std_upto, std_slt63, std_grow, std_imp, std_impN, std_tr, std_tb, std_ti, std_ts, std_tn, std_tp, std_nmin, std_makes, std_room, std_zeros, std_nilq, std_notq, std_eqi, std_eqn, std_eqb, std_eqs, std_eqv, std_cat, std_lst, std_rset, std_rcopy, std_shift, std_eqr, std_strOf, std_bytesOf, std_isB, std_zOf, zOf_int, std_isI, isI_int, gD]
            refine ⟨?_, (w64 (by omega)).trans (by omega)⟩
            rw [hg, mixI_fnv, hg', hi', List.append_assoc, take_snoc hlt]
          · have hie : i = r.length := by clear hg; subst hA; simp [std_add, std_sub, std_mul, std_quo, std_rem, std_band, std_bor, std_bxor, std_shl, std_shr, std_eq, std_ne, std_lt, std_le, std_conv, std_not, std_beq, std_bne, std_ite, std_want, std_and2, std_sadd, std_seq, std_sne, std_slt, std_sle, std_sgt, std_sge, std_slen, std_sget, std_scut, std_ofNat, std_toNat, std_nsub, std_nadd, std_lenOf, std_nz, std_nneg, std_inb, std_upto, std_slt63, std_grow, std_imp, std_impN, std_tr, std_tb, std_ti, std_ts, std_tn, std_tp, std_nmin, std_makes, std_room, std_zeros, std_nilq, std_notq, std_eqi, std_eqn, std_eqb, std_eqs, std_eqv, std_cat, std_lst, std_rset, std_rcopy, std_shift, std_eqr, std_strOf, std_bytesOf, std_isB, std_zOf, zOf_int, std_isI, isI_int] at *; omega
            rw [hie, List.take_length, hD] at hg
            have hb := fnv_lt (decs 6 s.toNat ++ r)
            have hq := modM hb hk.2
            subst hA
            simp only [std_add, std_sub, std_mul, std_quo, std_rem, std_band, std_bor, std_bxor, std_shl, std_shr, std_eq, std_ne, std_lt, std_le, std_conv, std_not, std_beq, std_bne, std_ite, std_want, std_and2, std_sadd, std_seq, std_sne, std_slt, std_sle, std_sgt, std_sge, std_slen, std_sget, std_scut, std_ofNat, std_toNat, std_nsub, std_nadd, std_lenOf, std_nz, std_nneg, std_inb, std_upto, std_slt63, std_grow, std_imp, std_impN, std_tr, std_tb, std_ti, std_ts, std_tn, std_tp, std_nmin, std_makes, std_room, std_zeros, std_nilq, std_notq, std_eqi, std_eqn, std_eqb, std_eqs, std_eqv, std_cat, std_lst, std_rset, std_rcopy, std_shift, std_eqr, std_strOf, std_bytesOf, std_isB, std_zOf, zOf_int, std_isI, isI_int, Int.ofNat_eq_natCast]
            rw [wU32 (by omega), Int.tmod_eq_emod_of_nonneg (by omega), shardI, if_pos hk, hq.1, hg, w64 (by omega)]
  all_goals (subst hA; simp [std_add, std_sub, std_mul, std_quo, std_rem, std_band, std_bor, std_bxor, std_shl, std_shr, std_eq, std_ne, std_lt, std_le, std_conv, std_not, std_beq, std_bne, std_ite, std_want, std_and2, std_sadd, std_seq, std_sne, std_slt, std_sle, std_sgt, std_sge, std_slen, std_sget, std_scut, std_ofNat, std_toNat, std_nsub, std_nadd, std_lenOf, std_nz, std_nneg, std_inb, std_upto, std_slt63, std_grow, std_imp, std_impN, std_tr, std_tb, std_ti, std_ts, std_tn, std_tp, std_nmin, std_makes, std_room, std_zeros, std_nilq, std_notq, std_eqi, std_eqn, std_eqb, std_eqs, std_eqv, std_cat, std_lst, std_rset, std_rcopy, std_shift, std_eqr, std_strOf, std_bytesOf, std_isB, std_zOf, zOf_int, std_isI, isI_int] at *)
  all_goals first
    | (rw [shardI, if_neg (fun h => by rcases hc with (hc | hc) | hc; (rw [h.1] at hc; cases hc); omega; omega)]; done)
    | trace_state
end Go.Vd
