/- The frame's laws: FrameFeeds. -/
import Derived.Test.YtdipfibiajkedaaWeF7
set_option linter.unusedVariables false
set_option linter.unusedSimpArgs false
set_option maxRecDepth 100000
set_option maxHeartbeats 4000000
namespace Go.Vd
open Go.Proofs
theorem bapp (l m : List UInt8) (f : Nat → Nat → SV) : Reps eB 0 1 (l.length + m.length) (catS l.length (catS 0 f (rowF eB 0 std fun _ => l)) (rowF eB 0 std fun _ => m)) (l ++ m) := by
  have h := (Reps.nil (enc := eB) (d := 0) (k := 1) (f := f)).cat (Reps.lit l)
  rw [Nat.zero_add, List.nil_append] at h
  exact h.cat (Reps.lit m)
theorem lbapp (l m : List UInt8) (f : Nat → Nat → SV) : lstOf eB 0 1 (l.length + m.length) (catS l.length (catS 0 f (rowF eB 0 std fun _ => l)) (rowF eB 0 std fun _ => m)) = l ++ m := lstOf_eq inj_eB (bapp l m f)
theorem rbapp (l m : List UInt8) (f : Nat → Nat → SV) : isRow eB 0 1 (l.length + m.length) (catS l.length (catS 0 f (rowF eB 0 std fun _ => l)) (rowF eB 0 std fun _ => m)) := ⟨_, bapp l m f⟩
theorem good_FrameFeeds (br : Bool) (L M B : List UInt8) : GoodP Try.prog gl0 5 [sR std (fun _ => L) br, rowS eB 0 1 std fun _ => M, rowS eB 0 1 std fun _ => B] (.bool true) := by
  refine fn_sound' (T := seatT) (G := gf5) (X := noX) seatT_ok gf5_ok noX_ok noI_ok mixed Try.func5 (.one) (fun A => [sR A (fun _ => L) br, rowS eB 0 1 A fun _ => M, rowS eB 0 1 A fun _ => B]) (fun A => .bool true) fun A hA => ?_
  cbv
  repeat' (first | with_reducible exact True.intro | with_reducible exact dr_ok hA (by kernel_rfl) | with_reducible refine And.intro ?_ ?_ | (intro hc; cbv))
  all_goals (subst hA; simp [-List.getD_eq_getElem?_getD, std_add, std_sub, std_mul, std_quo, std_rem, std_band, std_bor, std_bxor, std_shl, std_shr, std_eq, std_ne, std_lt, std_le, std_conv, std_not, std_beq, std_bne, std_ite, std_want, std_and2, std_sadd, std_seq, std_sne, std_slt, std_sle, std_sgt, std_sge, std_slen, std_sget, std_scut, std_ofNat, std_toNat, std_nsub, std_nadd, std_lenOf, std_nz, std_nneg, std_inb, std_upto, std_slt63, std_grow, std_imp, std_impN, std_tr, std_tb, std_ti, std_ts, std_tn, std_tp, std_nmin, std_makes, std_room, std_zeros, std_nilq, std_notq, std_eqi, std_eqn, std_eqb, std_eqs, std_eqv, std_cat, std_lst, std_rset, std_rcopy, std_shift, std_eqr, std_strOf, std_bytesOf, std_isB, std_zOf, zOf_int, std_isI, isI_int, std_getL, std_nmul, std_sOf, sOf_str, std_isS, isS_str, strOf_lit, lstOf_lit inj_eB, lstOf_lit inj_eZ, lstOf_lit inj_eBs, lstOf_lit inj_eS, isRow_lit, isB_lit, isRow_nil, lstOf_nil inj_eB, lstOf_nil inj_eZ, lstOf_nil inj_eBs, lstOf_nil inj_eS, lbapp, rbapp, lapp, rapp] at *)
  all_goals (have hq : (((L.length : Int) ≤ 5000 ∧ (M.length : Int) ≤ 5000) ∧ (B.length : Int) ≤ 5000) ∧ fOk L br = true := by assumption)
  all_goals (have hok := hq.2)
  all_goals (have h2 := fFeed_two (A := M) (B := B) hok)
  all_goals (have h3 := fFeed_right (B := M) hok)
  all_goals (have h4 := fFeed_right (B := M ++ B) hok)
  all_goals (have h5 := fFeed_e (B := M ++ B) hok)
  all_goals (have h6 := fFeed_told (L := L) (B := M) (br := br))
  all_goals (have h7 := fFeed_rest (L := L) (B := M) (br := br))
  all_goals (have h8 := fFeed_told (L := (fFeed L br M).rest) (B := B) (br := (fFeed L br M).br))
  all_goals (have h10 : (fFeed L br M).br = true → (fFeed (fFeed L br M).rest (fFeed L br M).br B).told = [] := fun hb => by rw [hb] at h3 ⊢; rw [fFeed_br h3])
  all_goals (generalize fFeed L br (M ++ B) = u at *)
  all_goals (generalize fFeed L br M = s at *)
  all_goals (generalize fFeed s.rest s.br B = t at *)
  all_goals (subst h2)
  all_goals (obtain ⟨⟨⟨q1, q2⟩, q3⟩, q4⟩ := hq)
  all_goals (dsimp only at *)
  all_goals (have he : t.br = (t.e == 12) := by (rw [h5]; cases t.br <;> rfl))
  all_goals clear h5
  all_goals first
    | omega
    | (constructor <;> omega)
    | assumption
    | (intros; refine ⟨⟨⟨⟨h4, h3⟩, rfl, rfl⟩, rfl⟩, ?_⟩; rw [List.length_append]; omega)
    | (intros; exact ⟨⟨⟨⟨⟨⟨h4, h3⟩, rfl, rfl⟩, rfl⟩, rfl⟩, he⟩, fun hb => ⟨⟨⟨⟨⟨⟨h4, h3⟩, rfl, rfl⟩, rfl⟩, rfl⟩, he⟩, hb⟩⟩)
    | exact ⟨⟨⟨⟨⟨⟨h4, h3⟩, rfl, rfl⟩, rfl⟩, rfl⟩, he⟩, (by cases hb : s.br; exact .inl rfl; exact .inr (h10 hb))⟩
    | (exfalso; (have hx : fOk t.rest t.br = true → fOk s.rest s.br = true → t.br = t.br → t.rest = t.rest → ¬t.e = t.e := by assumption); exact hx h4 h3 rfl rfl rfl)
    | trace_state
end Go.Vd
