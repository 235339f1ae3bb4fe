/- The fields' laws: FieldBack. -/
import Derived.Test.YtdipfibiajkedaaDoorVdH9
set_option linter.unusedVariables false
set_option linter.unusedSimpArgs false
set_option maxRecDepth 100000
set_option maxHeartbeats 4000000
namespace Go.Vd
open Go.Proofs
theorem hbapp (l m : List UInt8) (f : Nat → Nat → SV) : Reps eB 0 1 (l.length + m.length) (catS l.length (catS 0 f (rowF eB 0 std fun _ => l)) (rowF eB 0 std fun _ => m)) (l ++ m) := by
  have h := (Reps.nil (enc := eB) (d := 0) (k := 1) (f := f)).cat (Reps.lit l)
  rw [Nat.zero_add, List.nil_append] at h
  exact h.cat (Reps.lit m)
theorem hlbapp (l m : List UInt8) (f : Nat → Nat → SV) : lstOf eB 0 1 (l.length + m.length) (catS l.length (catS 0 f (rowF eB 0 std fun _ => l)) (rowF eB 0 std fun _ => m)) = l ++ m := lstOf_eq inj_eB (hbapp l m f)
theorem hrbapp (l m : List UInt8) (f : Nat → Nat → SV) : isRow eB 0 1 (l.length + m.length) (catS l.length (catS 0 f (rowF eB 0 std fun _ => l)) (rowF eB 0 std fun _ => m)) := ⟨_, hbapp l m f⟩
theorem we_rr {n : Int} {L : List UInt8} (h : fWe n L = 0) : rr n L = true := by
  unfold fWe at h
  split at h
  · cases h
  · split at h
    · assumption
    · cases h
theorem rr_we {n : Int} {L : List UInt8} (h : rr n L = true) : fWe n L = 0 := by
  unfold fWe
  rw [if_neg (by rw [(rr_ok h).1]; simp), if_pos h]
theorem wr_len (n : Int) (L : List UInt8) : (fWr n L).length ≤ L.length + 3 := by
  unfold fWr
  have := fAh_le (dKd n)
  split
  · split
    · omega
    · rw [List.length_append, decs_len]; omega
  · simp
theorem rd_len (n : Int) (B : List UInt8) : (fRd n B).1.length ≤ B.length := by
  unfold fRd
  repeat' split
  all_goals simp
  omega
theorem modC {z : Int} {M : Nat} (hz : 0 ≤ z ∧ z < 65536) (hM : 0 < M) : ∃ c : Nat, c < M ∧ (IntKind.i64.wrap z).tmod (M : Int) = (c : Int) := by
  have h1 := Int.emod_nonneg z (b := (M : Int)) (by omega)
  have h2 := Int.emod_lt_of_pos z (b := (M : Int)) (by omega)
  refine ⟨(z % (M : Int)).toNat, by omega, ?_⟩
  rw [w64 (by omega), Int.tmod_eq_emod_of_nonneg hz.1]
  omega
theorem unlike {n : Int} {S L : List UInt8} (hr : rr n S = true) (h : ((fWe n L = 0 ∧ ¬S = L) ∧ (fWr n S).length ≤ (fWr n L).length) ∧ fWr n S = strOfS (fWr n S).length (rowF eB 0 std fun _ => fWr n L)) : False := by
  obtain ⟨⟨⟨h1, h2⟩, h3⟩, h4⟩ := h
  rw [cutS _ h3] at h4
  have e1 := fR_back hr ((fWr n L).drop (fWr n S).length)
  have e2 := fR_back (we_rr h1) []
  rw [List.append_nil] at e2
  have e3 : fWr n S ++ (fWr n L).drop (fWr n S).length = fWr n L := by
    conv => lhs; lhs; rw [h4]
    exact List.take_append_drop _ _
  rw [e3, e2] at e1
  injection e1 with e1
  exact h2 e1.symm
theorem fb_end {n : Int} {B : List UInt8} (h : (fRd n B).2.2 = 0) : (((fWe n (fRd n B).1 = 0 ∧ rr n (fRd n B).1 = true) ∧ (fRd n B).2.1 ≤ B.length) ∧ 0 < (fRd n B).2.1) ∧ fWr n (fRd n B).1 = strOfS (fRd n B).2.1 (rowF eB 0 std fun _ => B) := by
  obtain ⟨g1, g2, g3, g4⟩ := fR_good h
  exact ⟨⟨⟨⟨rr_we g1, g1⟩, g2⟩, g3⟩, by rw [cutS _ g2]; exact g4⟩
theorem good_FieldBack (n z : Int) (S L B : List UInt8) (hz : 0 ≤ z ∧ z < 65536) : GoodP Tryd.prog gl0 7 [.int .i64 n, .str S, .str L, rowS eB 0 1 std fun _ => B, .int .u16 z] (.bool true) := by
  refine fn_sound' (T := seatT) (G := gh7) (X := noX) seatT_ok gh7_ok noX_ok noI_ok mixed Tryd.func7 (.one) (fun A => [.int .i64 n, .str S, .str L, rowS eB 0 1 A fun _ => B, .int .u16 z]) (fun A => .bool true) fun A hA => ?_
  cbv
  repeat' (first | with_reducible exact True.intro | with_reducible exact dr_ok hA (by kernel_rfl) | with_reducible refine And.intro ?_ ?_ | (intro hc; cbv))
  all_goals (subst hA; simp [std_add, std_sub, std_mul, std_quo, std_rem, std_band, std_bor, std_bxor, std_shl, std_shr, std_eq, std_ne, std_lt, std_le, std_conv, std_not, std_beq, std_bne, std_ite, std_want, std_and2, std_sadd, std_seq, std_sne, std_slt, std_sle, std_sgt, std_sge, std_slen, std_sget, std_scut, std_ofNat, std_toNat, std_nsub, std_nadd, std_lenOf, std_nz, std_nneg, std_inb, std_upto, std_slt63, std_grow, std_imp, std_impN, std_tr, std_tb, std_ti, std_ts, std_tn, std_tp, std_nmin, std_makes, std_room, std_zeros, std_nilq, std_notq, std_eqi, std_eqn, std_eqb, std_eqs, std_eqv, std_cat, std_lst, std_rset, std_rcopy, std_shift, std_eqr, std_strOf, std_bytesOf, std_isB, std_zOf, zOf_int, std_isI, isI_int, std_getL, std_nmul, std_sOf, sOf_str, std_isS, isS_str, strOf_lit, lstOf_lit inj_eB, lstOf_lit inj_eZ, lstOf_lit inj_eBs, lstOf_lit inj_eS, isRow_lit, isB_lit, isRow_nil, lstOf_nil inj_eB, lstOf_nil inj_eZ, lstOf_nil inj_eBs, lstOf_nil inj_eS, hlbapp, hrbapp] at *)
  all_goals (have hl1 := wr_len n S)
  all_goals (have hl2 := wr_len n L)
  all_goals (have hl3 := rd_len n B)
  all_goals first
    | omega
    | exact fR_bad (by assumption)
    | exact fb_end (by assumption)
    | (intro h1; exact ⟨h1, by omega⟩)
    | (intro h1 h2 h4 h5; exact ⟨⟨⟨⟨h1, h2⟩, h4⟩, h5⟩, Int.ofNat_lt.2 (Nat.lt_succ_of_le h4)⟩)
    | (intro h1 h2 h4 h5; exact ⟨⟨⟨⟨h1, h2⟩, h4⟩, h5⟩, isB_any _ _⟩)
    | (have hw : fWe n S = 0 ∧ 0 < (fWr n S).length := by assumption
       have hr := we_rr hw.1
       first
         | exact unlike hr (by assumption)
         | (constructor <;> omega)
         | exact List.length_pos_iff.1 hw.2
         | (intro h1 h2 h4; exact ⟨⟨⟨h1, h2⟩, h4⟩, by omega⟩)
         | (intro h1 h2 h4; exact ⟨⟨⟨h1, h2⟩, h4⟩, isB_any _ _⟩)
         | (obtain ⟨c, hc1, hc2⟩ := modC hz hw.2
            have hcut : lstOf eB 0 1 c (rowF eB 0 std fun _ => fWr n S) = (fWr n S).take c := lstOf_eq inj_eB (.cut _ c (by omega))
            have hb := fR_back hr B
            have hx := fR_cut hr hc1
            simp only [hc2, Int.toNat_natCast, hcut, hb, hx] at *
            first
              | omega
              | (constructor <;> omega)
              | exact ⟨⟨_, .cut _ c (by omega)⟩, by omega⟩
              | (simp at hc; done)
              | trace_state))
    | trace_state
end Go.Vd
