/- Deals: the law DealBytes. -/
import Derived.Test.YtakcggldilbilaaDoorVdO4
set_option linter.unusedVariables false
set_option linter.unusedSimpArgs false
set_option maxRecDepth 100000
set_option maxHeartbeats 8000000
namespace Go.Vd
open Go.Proofs
theorem xor8 (x : UInt8) {b : Int} (hb : 0 ≤ b ∧ b < 256) : ∃ y : UInt8, bits .xor .u8 (x.toNat : Int) b = (y.toNat : Int) ∧ (y = x ↔ b = 0) := by
  obtain ⟨n, rfl⟩ : ∃ n : Nat, b = n := ⟨b.toNat, by omega⟩
  have hn : n < 256 := by omega
  have hx := UInt8.toNat_lt x
  have hlt : x.toNat ^^^ n < 256 := Nat.xor_lt_two_pow (n := 8) (by omega) (by omega)
  refine ⟨UInt8.ofNat (x.toNat ^^^ n), ?_, ?_⟩
  · have h1 : (UInt8.ofNat (x.toNat ^^^ n)).toNat = x.toNat ^^^ n := by rw [UInt8.toNat_ofNat']; omega
    rw [h1]
    have h2 : (BitVec.ofInt 8 (x.toNat : Int) ^^^ BitVec.ofInt 8 (n : Int)).toNat = x.toNat ^^^ n := by
      rw [BitVec.toNat_xor]
      simp only [BitVec.ofInt_natCast, BitVec.toNat_ofNat]
      rw [Nat.mod_eq_of_lt (by omega), Nat.mod_eq_of_lt (by omega)]
    show IntKind.u8.wrap ((BitVec.ofInt 8 (x.toNat : Int) ^^^ BitVec.ofInt 8 (n : Int)).toNat : Int) = _
    rw [h2]
    unfold IntKind.wrap
    simp [IntKind.signed, IntKind.bits]
    omega
  · constructor
    · intro h
      have h1 := congrArg UInt8.toNat h
      rw [UInt8.toNat_ofNat', Nat.mod_eq_of_lt hlt] at h1
      have h2 : x.toNat ^^^ (x.toNat ^^^ n) = x.toNat ^^^ x.toNat := by rw [h1]
      rw [← Nat.xor_assoc, Nat.xor_self, Nat.zero_xor] at h2
      omega
    · intro h
      have : n = 0 := by omega
      subst this
      rw [Nat.xor_zero, UInt8.ofNat_toNat]
theorem cat0 (g f : Nat → Nat → SV) : catS 0 g f = f := by funext i j; simp [catS]
theorem rowB_at (B : List UInt8) (j : Nat) : rowF eB 0 std (fun _ => B) j 0 = .int .u8 ((B.getD j 0).toNat : Int) := rfl
theorem set_reps (B : List UInt8) {j : Nat} (hj : j < B.length) {z : Int} {y : UInt8} (hz : z = y.toNat) : Reps eB 0 1 B.length (rsetS (rowF eB 0 std fun _ => B) j 0 [SV.int .u8 z]) (B.set j y) :=
  (Reps.lit B).rset' hj y rfl (cell_eB hz)
theorem set_iff {B : List UInt8} {j : Nat} (hj : j < B.length) {y : UInt8} : B.set j y = B ↔ y = B.getD j 0 := by
  have e : B.getD j 0 = B[j] := by rw [List.getD_eq_getElem?_getD, List.getElem?_eq_getElem hj]; rfl
  rw [e]
  constructor
  · intro h
    have := congrArg (·[j]?) h
    simpa [hj] using this
  · rintro rfl
    exact List.set_getElem_self hj
theorem body_sum {L : List It} (h : ∀ x ∈ L, rr x.1 x.2 = true) : (body L).length ≤ (L.map fun x => x.2.length + 3).sum := by
  induction L with
  | nil => simp [body]
  | cons x L ih =>
    rw [body_cons, List.length_append, List.map_cons, List.sum_cons]
    have h1 := fWr_len (h x (by simp))
    have := ih fun y hy => h y (List.mem_cons_of_mem _ hy)
    omega
theorem dB_len {k a s : Int} {p r c : List UInt8} (h : dR k a s p r c = true) (ha : 0 ≤ a) (hs : 0 ≤ s) : 12 ≤ (mW (tyOf k) (dIs k a s p r c)).length ∧ (mW (tyOf k) (dIs k a s p r c)).length ≤ 200 := by
  have hR := dIs_R h ha hs
  have hi := mR_iff.1 hR
  refine ⟨mW_ne hR, ?_⟩
  obtain ⟨b1, b2, b3, b4, b5, b6⟩ := bof_ups hi.2.2.2 (fs_bf hi.2.2.1)
  have hbb := bb_len b2
  have hT := mT_len hi.1
  have hl := dR_len h
  obtain ⟨q1, q2, q3, q4, q5, q6⟩ := dR_parts h ha hs
  have l11 := (rr11.1 q2).1
  have l90 := (rr90.1 q5).1
  have hs := body_sum hi.2.2.1
  have hbits : (mBits (dIs k a s p r c)).length ≤ 16 := by unfold mBits; rw [hbb]; split <;> omega
  have hsum : ((dIs k a s p r c).map fun x => x.2.length + 3).sum ≤ 120 := by
    unfold dIs
    split
    · rename_i e
      have l4 := (rr4.1 (q6 (asks_tl e)).2.1).1
      simp
      omega
    · split
      · rename_i e
        have l4 := (rr4.1 (q6 e).2.1).1
        simp
        omega
      · simp
        omega
  unfold mW
  rw [List.length_append, List.length_append]
  omega
theorem db_iff {k a s : Int} {p r c : List UInt8} (hd : dR k a s p r c = true) (ha : 0 ≤ a) (hs : 0 ≤ s) {B : List UInt8} (h : mRe B = 0) :
    (dE (mRT B) (mRL B) = 0 ∧ xK (mRT B) (mRL B) = k ∧ xP (mRT B) (mRL B) = p ∧ xA (mRT B) (mRL B) = a ∧ xS (mRT B) (mRL B) = s ∧ xR (mRT B) (mRL B) = r ∧ xC (mRT B) (mRL B) = c) ↔ B = mW (tyOf k) (dIs k a s p r c) := by
  have g := mR_good h
  constructor
  · rintro ⟨h1, h2, h3, h4, h5, h6, h7⟩
    have q := d_good h1
    rw [h2, h3, h4, h5, h6, h7] at q
    rw [q.2.1, q.2.2.1]
    exact g.2.symm
  · intro e
    have hR := dIs_R hd ha hs
    have hb := mR_back hR
    have b := d_back hd ha hs
    rw [e, hb.2.1, hb.2.2]
    exact ⟨b.1, b.2.1, b.2.2.2.2.1, b.2.2.1, b.2.2.2.1, b.2.2.2.2.2.1, b.2.2.2.2.2.2⟩
theorem good_DealBytes (k a s at_ by_ : Int) (p r c : List UInt8) (ha : 0 ≤ a ∧ a < 18446744073709551616) (hs : 0 ≤ s ∧ s < 4294967296) (hat : 0 ≤ at_ ∧ at_ < 256) (hby : 0 ≤ by_ ∧ by_ < 256) : GoodP Tryd.prog gl0 9 [.agg [.int .i64 k, .str p, .int .u64 a, .int .u32 s, .str r, .str c], .int .u8 at_, .int .u8 by_] (.bool true) := by
  refine fn_sound' (T := seatT) (G := gO6) (X := noX) seatT_ok gO6_ok noX_ok noI_ok mixed Tryd.func9 (.one) (fun A => [.agg [.int .i64 k, .str p, .int .u64 a, .int .u32 s, .str r, .str c], .int .u8 at_, .int .u8 by_]) (fun A => .bool true) fun A hA => ?_
  cbv
  repeat' (first | with_reducible exact True.intro | with_reducible exact dr_ok hA (by kernel_rfl) | with_reducible refine And.intro ?_ ?_ | (intro hc; cbv))
  all_goals (subst hA; simp [-List.getD_eq_getElem?_getD, std_add, std_sub, std_mul, std_quo, std_rem, std_band, std_bor, std_bxor, std_shl, std_shr, std_eq, std_ne, std_lt, std_le, std_conv, std_not, std_beq, std_bne, std_ite, std_want, std_and2, std_sadd, std_seq, std_sne, std_slt, std_sle, std_sgt, std_sge, std_slen, std_sget, std_scut, std_ofNat, std_toNat, std_nsub, std_nadd, std_lenOf, std_nz, std_nneg, std_inb, std_upto, std_slt63, std_grow, std_imp, std_impN, std_tr, std_tb, std_ti, std_ts, std_tn, std_tp, std_nmin, std_makes, std_room, std_zeros, std_nilq, std_notq, std_eqi, std_eqn, std_eqb, std_eqs, std_eqv, std_cat, std_lst, std_rset, std_rcopy, std_shift, std_eqr, std_strOf, std_bytesOf, std_isB, std_zOf, zOf_int, std_isI, isI_int, std_getL, std_nmul, std_sOf, sOf_str, std_isS, isS_str, strOf_lit, lstOf_lit inj_eB, lstOf_lit inj_eZ, lstOf_lit inj_eBs, lstOf_lit inj_eS, isRow_lit, isB_lit, isRow_nil, lstOf_nil inj_eB, lstOf_nil inj_eZ, lstOf_nil inj_eBs, lstOf_nil inj_eS, lstOf_lit inj_eI] at *)
  all_goals (have hsh : oSh p r c = true := by assumption)
  all_goals (have s1 := oSh_iff.1 hsh)
  all_goals first
    | exact ⟨ha, hs, by omega, by omega, by omega⟩
    | (have hz : dWe k a s p r c = 0 ∧ ¬mWx (dWT k a s p r c) (dWL k a s p r c) = [] := by assumption
       have hd := dWe_R hz.1
       have hw := dw_yes hd
       have hb := d_back hd ha.1 hs.1
       have hR := dIs_R hd ha.1 hs.1
       have hv := fun i => Nat.le_trans (val_len hR i) (show 999 ≤ 1000000 by decide)
       have hl : (dIs k a s p r c).length ≤ 5 := by rw [dIs_len]; exact (fOf_len k).2
       have hB := dB_len hd ha.1 hs.1
       have hm := mw_yes hR
       have hk := mR_back hR
       have hq := fun {B : List UInt8} (h : mRe B = 0) => db_iff hd ha.1 hs.1 h
       have hk0 : ∀ X, X = mW (tyOf k) (dIs k a s p r c) → mRe X = 0 := fun X e => e ▸ hk.1
       clear hsh
       simp only [hw.1, hw.2.1, hw.2.2, hm.1, hm.2, hk.1, hk.2.1, hk.2.2, hb.1, hb.2.1, hb.2.2.1, hb.2.2.2.1, hb.2.2.2.2.1, hb.2.2.2.2.2.1, hb.2.2.2.2.2.2, cat0] at *
       clear hw hb hm
       generalize mW (tyOf k) (dIs k a s p r c) = B at *
       obtain ⟨j, hj, ej⟩ := mod_cut (c := at_) (n := B.length) ⟨hat.1, by omega⟩ (by omega)
       obtain ⟨y, hy, hyx⟩ := xor8 (B.getD j 0) hby
       have hrp := set_reps B hj (show ((y.toNat : Nat) : Int) = y.toNat from rfl)
       have hls := lstOf_eq inj_eB hrp
       simp only [ej, Int.toNat_natCast, rowB_at, zOf_int, hy, hls] at *
       first
         | omega
         | exact ⟨by omega, by omega⟩
         | exact ⟨Nat.le_trans hl (by decide), hv⟩
         | (intro e; rw [e] at hB; simp at hB; done)
         | exact ⟨⟨_, hrp⟩, by omega⟩
         | (simp [isI_int]; done)
         | (simp at hc; omega)
         | exact fun h0 => hc (hk0 _ ((set_iff hj).2 (hyx.2 h0)))
         | exact ⟨Nat.le_trans (mRL_len _) (by decide), fun i => Nat.le_trans (val_len (mR_good hc).1 i) (by decide)⟩
         | (rw [Bool.eq_iff_iff]
            simp
            exact (hq hc).trans ((set_iff hj).trans hyx))
         | trace_state)
    | (rcases hc with hc | hc
       · exact hc
       · intro hz
         have hd := dWe_R hz
         have hw := dw_yes hd
         have hB := dB_len hd ha.1 hs.1
         rw [hw.1, hw.2.1, (mw_yes (dIs_R hd ha.1 hs.1)).1] at hc
         rw [hc] at hB
         simp at hB)
    | (have hw : dR k a s p r c = true → mR (dWT k a s p r c) (dWL k a s p r c) = true := fun h => by rw [(dw_yes h).1, (dw_yes h).2.1]; exact dIs_R h ha.1 hs.1
       cases e : dR k a s p r c
       · have hn := dw_no e
         simp [hn.1, hn.2.1, hn.2.2] at *
         done
       · have hy := dw_yes e
         have hR := dIs_R e ha.1 hs.1
         have hv := fun i => Nat.le_trans (val_len hR i) (show 999 ≤ 1000000 by decide)
         have hl : (dIs k a s p r c).length ≤ 5 := by rw [dIs_len]; exact (fOf_len k).2
         have hB := dB_len e ha.1 hs.1
         rw [hy.2.1] at *
         first
           | exact ⟨Nat.le_trans hl (by decide), hv⟩
           | (exfalso
              rcases hc with hc | hc
              · exact hc hy.2.2
              · rw [hy.1, (mw_yes hR).1] at hc; rw [hc] at hB; simp at hB)
           | trace_state)
    | trace_state
end Go.Vd
