/- The reference's functions of the bitmap: bytes and back. -/
import Derived.Test.YtakcggldilbilaaGreatDoorVdBc
import Derived.Test.YtakcggldilbilaaGreatDoorVdO4
import Derived.Test.YtakcggldilbilaaGreatDoorVdKM
set_option linter.unusedVariables false
set_option linter.unusedSimpArgs false
set_option maxRecDepth 100000
set_option maxHeartbeats 1000000
namespace Go.Vd
open Go.Proofs
theorem good32 (L : List UInt8) (hn : 8 ≤ L.length) : GoodP Tryz.prog gl0 139 [rowS eB 0 1 std fun _ => L] (r31 std fun _ => L) := by
  refine fn_sound' (T := seatT) (G := noC) (X := noX) seatT_ok noC_ok noX_ok noI_ok mixed Tryz.func139 .one (fun A => [rowS eB 0 1 A fun _ => L]) (fun A => r31 A fun _ => L) fun A hA => ?_
  cbv
  refine ⟨⟨{k : Nat // k ≤ 8}, fun _ k => [(3, .int .u64 (A.ti fun _ => numTo L k.1)), (4, .int .i64 (k.1 : Nat))], fun _ _ => [], fun k => 8 - k.1, true⟩, ⟨⟨0, by omega⟩, ?_⟩, ?_⟩
  · cbv
    subst hA
    simp [sS, numTo]
  · rintro ⟨k, hk⟩
    cbv
    repeat' (first | with_reducible exact True.intro | with_reducible exact dr_ok hA (by kernel_rfl) | with_reducible refine And.intro ?_ ?_ | (intro hc; cbv))
    · subst hA; simp [sS] at hc ⊢; omega
    · have hlt : k < 8 := by subst hA; simp [sS] at hc; omega
      refine ⟨⟨k + 1, by omega⟩, ?_, show 8 - (k + 1) < 8 - k by omega⟩
      cbv
      repeat' (first | with_reducible exact True.intro | with_reducible exact dr_ok hA (by kernel_rfl) | with_reducible refine And.intro ?_ ?_ | (intro hc; cbv))
      all_goals (subst hA; simp [sS])
      · have h1 := numTo_lt L k (by omega)
        have h3 : 256 ^ k * 256 ≤ 256 ^ 8 := by rw [← Nat.pow_succ]; exact Nat.pow_le_pow_right (by decide) hlt
        have hs := numTo_succ L k (by omega)
        rw [List.getD_eq_getElem?_getD] at hs
        have hb := UInt8.toNat_lt (L[k]?.getD 0)
        generalize (L[k]?.getD 0).toNat = b at hs hb
        rw [wu64 (n := (b : Int)) ⟨by omega, by omega⟩, wu64 (n := 256 * (numTo L k : Int)) ⟨by omega, by omega⟩, wu64 ⟨by omega, by omega⟩, hs]
        show 256 * (numTo L k : Int) + (b : Int) = ((numTo L k * 256 + b : Nat) : Int)
        omega
      · rw [w64 (by omega)]
    · have : k = 8 := by subst hA; simp [sS] at hc; omega
      subst hA this
      simp [sS]
def beFrom (v k : Nat) : List UInt8 := (List.range 8).map fun i => if 8 - k ≤ i then byteAt v i else 0
theorem beFrom_get (v k i : Nat) (h : i < 8) : (beFrom v k)[i]?.getD 0 = if 8 - k ≤ i then byteAt v i else 0 := by simp [beFrom, h]
theorem beFrom_len (v k : Nat) : (beFrom v k).length = 8 := by simp [beFrom]
theorem beFrom_zero (v : Nat) : List.replicate 8 0 = beFrom v 0 := by
  apply List.ext_getElem
  · simp [beFrom]
  · intro i h1 h2
    simp at h1
    have := beFrom_get v 0 i h1
    rw [if_neg (by omega), List.getElem?_eq_getElem h2] at this
    rw [List.getElem_replicate]
    exact this.symm
theorem beFrom_set (v k : Nat) (hk : k < 8) : (beFrom v k).set (7 - k) (byteAt v (7 - k)) = beFrom v (k + 1) := by
  apply List.ext_getElem
  · simp [beFrom]
  · intro i h1 h2
    rw [beFrom_len] at h2
    have a := beFrom_get v k i h2
    have b := beFrom_get v (k + 1) i h2
    rw [List.getElem?_eq_getElem (by rw [beFrom_len]; exact h2), Option.getD_some] at a b
    rw [List.getElem_set, a, b]
    by_cases e : 7 - k = i
    · subst e; rw [if_pos rfl, if_pos (by omega)]
    · rw [if_neg e]
      by_cases h3 : 8 - k ≤ i
      · rw [if_pos h3, if_pos (by omega)]
      · rw [if_neg h3, if_neg (by omega)]
theorem beFrom_byte (v k : Nat) (hk : k < 8) : IntKind.u8.wrap (((v : Int) / 256 ^ k).tmod 256) = ((byteAt v (7 - k)).toNat : Int) := by
  rw [byteAt_nat, show 7 - (7 - k) = k by omega, show (v : Int) / 256 ^ k = ((v / 256 ^ k : Nat) : Int) by simp, show ((v / 256 ^ k : Nat) : Int).tmod 256 = ((v / 256 ^ k % 256 : Nat) : Int) from rfl, wu8, Nat.mod_mod]
theorem beFrom_all (v : Nat) : beFrom v 8 = be8 v := by simp [beFrom, be8]
def r30 (A : Ar) (v : Int) : SV := .frs 5 1 8 (rowF eB 0 A fun _ => be8 v.toNat)
theorem good30 {v : Int} (hv : r64 v) : GoodP Tryz.prog gl0 153 [.int .u64 v] (r30 std v) := by
  obtain ⟨v, rfl, lv⟩ := r64_nat hv
  refine fn_sound' (T := seatT) (G := noC) (X := noX) seatT_ok noC_ok noX_ok noI_ok mixed Tryz.func153 .one (fun A => [.int .u64 v]) (fun A => r30 A v) fun A hA => ?_
  cbv
  repeat' (first | with_reducible exact True.intro | with_reducible exact dr_ok hA (by kernel_rfl) | with_reducible refine And.intro ?_ ?_ | (intro hc; cbv))
  · subst hA; simp [sS]
  · refine ⟨⟨{k : Nat // k ≤ 8}, fun b k => [(0, .int .u64 (A.ti fun _ => (v / 256 ^ k.1 : Nat))), (3, .own 1), (4, .int .i64 (A.ti fun _ => 7 - Int.ofNat k.1))], fun b k => [(1, .row 5 1 8 (rowF eB 0 A fun _ => beFrom v k.1))], fun k => 8 - k.1, true⟩, ⟨⟨0, by omega⟩, ?_⟩, ?_⟩
    · cbv
      repeat' (first | with_reducible exact True.intro | with_reducible exact dr_ok hA (by kernel_rfl) | with_reducible refine And.intro ?_ ?_ | (intro hc; cbv))
      all_goals (subst hA; simp [sS])
      exact eqr_of (Reps.fill (x := 0) (cell_eB rfl) (fun _ => rfl)) rfl (beFrom_zero v)
    · rintro ⟨k, hk⟩
      cbv
      repeat' (first | with_reducible exact True.intro | with_reducible exact dr_ok hA (by kernel_rfl) | with_reducible refine And.intro ?_ ?_ | (intro hc; cbv))
      all_goals try (subst hA; simp [sS]; done)
      all_goals try (subst hA; simp [sS] at hc ⊢; omega)
      · have hlt : k < 8 := by subst hA; simp [sS] at hc; omega
        refine ⟨⟨k + 1, by omega⟩, ?_, show 8 - (k + 1) < 8 - k by omega⟩
        cbv
        repeat' (first | with_reducible exact True.intro | with_reducible exact dr_ok hA (by kernel_rfl) | with_reducible refine And.intro ?_ ?_ | (intro hc; cbv))
        all_goals (subst hA; simp [sS])
        · rw [show (v : Int) / 256 ^ (k + 1) = ((v / 256 ^ (k + 1) : Nat) : Int) by simp, show (v : Int) / 256 ^ k = ((v / 256 ^ k : Nat) : Int) by simp, show ((v / 256 ^ k : Nat) : Int).tdiv 256 = ((v / 256 ^ k / 256 : Nat) : Int) from rfl, Nat.div_div_eq_div_mul, ← Nat.pow_succ]
          have := Nat.lt_of_le_of_lt (Nat.div_le_self v (256 ^ (k + 1))) lv
          generalize v / 256 ^ (k + 1) = m at this ⊢
          exact wu64 ⟨by omega, by omega⟩
        · rw [w64 (by omega)]; omega
        · exact eqr_of (Reps.rset' (k := 1) (enc := eB) ⟨beFrom_len v k, fun i j hi hj => .refl _⟩ (by omega) (byteAt v (7 - k)) rfl (cell_eB (beFrom_byte v k hlt))) rfl (beFrom_set v k hlt)
      all_goals (have : k = 8 := by subst hA; simp [sS] at hc; omega)
      all_goals (subst hA this; simp [sS, beFrom_all])
noncomputable def c30 : Ct := fun A args => match args with
  | [.int .u64 v] => some (some (A.tp fun _ => r64 v), r30 A v)
  | _ => none
noncomputable def ga : Ar → Pu := addC 153 c30 (addC 139 c31 g9)
theorem ga_ok : PuOk Tryz.prog gl0 (ga std) := by
  refine addC_ok (addC_ok g9_ok ⟨_, Tryz.func139, rfl, by decide⟩ ?_) ⟨_, Tryz.func153, rfl, by decide⟩ ?_
  · intro args p r h hp
    unfold c31 at h
    split at h <;> cases h
    exact good_sv (good32 _ (by rw [lstOf_length hp.1]; exact hp.2)) ⟨hp.1.sv, trivial⟩
  · intro args p r h hp
    unfold c30 at h
    split at h <;> cases h
    exact good30 hp
end Go.Vd

set_option linter.unusedVariables false
set_option linter.unusedSimpArgs false
set_option maxRecDepth 100000
set_option maxHeartbeats 1000000
namespace Go.Vd
open Go.Proofs
/-- One cast, one form. -/
theorem ncast (n : Nat) : @NatCast.natCast Int instNatCastInt n = (n : Int) := rfl
/-- The bytes of a bitmap that is right, as the reference has them. -/
def bref (h l : Nat) : List UInt8 := if l = 0 then be8 h else be8 h ++ be8 l
def r19 (A : Ar) (h l : Int) : SV := rowS eB 0 1 A fun _ => bref h.toNat l.toNat
theorem good19 {h l : Int} (hh : r64 h) (hl : r64 l) : GoodP Tryz.prog gl0 119 [.agg [.int .u64 h, .int .u64 l]] (r19 std h l) := by
  obtain ⟨h, rfl, lh⟩ := r64_nat hh
  obtain ⟨l, rfl, ll⟩ := r64_nat hl
  refine fn_sound' (T := seatT) (G := ga) (X := noX) seatT_ok ga_ok noX_ok noI_ok mixed Tryz.func119 .none (fun A => [.agg [.int .u64 h, .int .u64 l]]) (fun A => r19 A h l) fun A hA => ?_
  cbv
  repeat' (first | with_reducible exact True.intro | with_reducible exact dr_ok hA (by kernel_rfl) | with_reducible refine And.intro ?_ ?_ | (intro hc; cbv))
  all_goals (subst hA; simp [std_add, std_sub, std_mul, std_quo, std_rem, std_band, std_bor, std_bxor, std_shl, std_shr, std_eq, std_ne, std_lt, std_le, std_conv, std_not, std_beq, std_bne, std_ite, std_want, std_and2, std_sadd, std_seq, std_sne, std_slt, std_sle, std_sgt, std_sge, std_slen, std_sget, std_scut, std_ofNat, std_toNat, std_nsub, std_nadd, std_lenOf, std_nz, std_nneg, std_inb, std_upto, std_slt63, std_grow, std_imp, std_impN, std_tr, std_tb, std_ti, std_ts, std_tn, std_tp, std_nmin, std_makes, std_room, std_zeros, std_nilq, std_notq, std_eqi, std_eqn, std_eqb, std_eqs, std_eqv, std_cat, std_lst, std_rset, std_rcopy, std_shift, std_eqr, std_strOf, std_bytesOf, std_isB, std_zOf, zOf_int, std_isI, isI_int, std_getL, std_nmul, std_sOf, sOf_str, std_isS, isS_str] at *)
  all_goals first
    | assumption
    | (simp [bref, hc, be8_len]; done)
    | (simp only [bref, hc, if_false]; exact eqr_of (Reps.catE (Reps.lit (be8 h)) (Reps.lit (be8 l)) (be8_len h)) (by simp [be8_len]) rfl)
    | trace_state
theorem brM_iff (L : List UInt8) (h : 8 ≤ L.length) : brM L = decide (128 ≤ (L.getD 0 0).toNat) := by
  have h1 := numTo_div L 1 7 (by omega)
  have h2 : numTo L 1 = (L.getD 0 0).toNat := by
    rw [numTo_succ L 0 (by omega)]; simp [numTo]
  have h3 := UInt8.toNat_lt (L.getD 0 0)
  rw [h2] at h1
  unfold brM brH
  rw [Nat.testBit_eq_decide_div_mod_eq]
  have h4 : numTo L 8 / 2 ^ 63 = (L.getD 0 0).toNat / 128 := by
    rw [← h1, Nat.div_div_eq_div_mul]
  rw [h4]
  congr 1
  apply propext
  omega
theorem good21 (L : List UInt8) (hn : L.length ≤ 9223372036854775807) : GoodP Tryz.prog gl0 94 [rowS eB 0 1 std fun _ => L] (r20 std fun _ => L) := by
  refine fn_sound' (T := seatT) (G := ga) (X := noX) seatT_ok ga_ok noX_ok noI_ok mixed Tryz.func94 .one (fun A => [rowS eB 0 1 A fun _ => L]) (fun A => r20 A fun _ => L) fun A hA => ?_
  cbv
  repeat' (first | with_reducible exact True.intro | with_reducible exact dr_ok hA (by kernel_rfl) | with_reducible refine And.intro ?_ ?_ | (intro hc; cbv))
  all_goals (subst hA; simp [std_add, std_sub, std_mul, std_quo, std_rem, std_band, std_bor, std_bxor, std_shl, std_shr, std_eq, std_ne, std_lt, std_le, std_conv, std_not, std_beq, std_bne, std_ite, std_want, std_and2, std_sadd, std_seq, std_sne, std_slt, std_sle, std_sgt, std_sge, std_slen, std_sget, std_scut, std_ofNat, std_toNat, std_nsub, std_nadd, std_lenOf, std_nz, std_nneg, std_inb, std_upto, std_slt63, std_grow, std_imp, std_impN, std_tr, std_tb, std_ti, std_ts, std_tn, std_tp, std_nmin, std_makes, std_room, std_zeros, std_nilq, std_notq, std_eqi, std_eqn, std_eqb, std_eqs, std_eqv, std_cat, std_lst, std_rset, std_rcopy, std_shift, std_eqr, std_strOf, std_bytesOf, std_isB, std_zOf, zOf_int, std_isI, isI_int, std_getL, std_nmul, std_sOf, sOf_str, std_isS, isS_str, ncast, strOf_lit, lstOf_lit inj_eB, lstOf_lit inj_eZ, lstOf_lit inj_eBs, lstOf_lit inj_eS, isRow_lit, isB_lit, isRow_nil, lstOf_nil inj_eB, lstOf_nil inj_eZ, lstOf_nil inj_eBs, lstOf_nil inj_eS, lst_drop, row_drop] at *)
  all_goals try omega
  · by_cases e : L.length < 8
    · simp [br1, brE, e]
    · have hb : brM L = true := by rw [brM_iff L (by omega)]; simp; omega
      simp [br1, brE, e, hb, show L.length < 16 by omega]
  · by_cases e : L.length < 8
    · simp [br2, brE, e]
    · have hb : brM L = true := by rw [brM_iff L (by omega)]; simp; omega
      simp [br2, brE, e, hb, show L.length < 16 by omega]
  · by_cases e : L.length < 8
    · simp [brN, brE, e]
    · have hb : brM L = true := by rw [brM_iff L (by omega)]; simp; omega
      simp [brN, brE, e, hb, show L.length < 16 by omega]
  · by_cases e : L.length < 8
    · simp [brE, e]
    · have hb : brM L = true := by rw [brM_iff L (by omega)]; simp; omega
      simp [brE, e, hb, show L.length < 16 by omega]
  all_goals first
    | exact ⟨numTo_r _ (by omega), numTo_r _ (by simp; omega)⟩
    | exact ⟨numTo_r _ (by omega), r64_of (by decide)⟩
    | (have hb : brM L = true := by rw [brM_iff L (by omega)]; simp; omega
       have e1 : ¬ L.length < 8 := by omega
       have e2 : ¬ L.length < 16 := by omega
       simp [br1, br2, brN, brE, brL, e1, e2, hb, brH, hc]; done)
    | (have hb : brM L = false := by rw [brM_iff L (by omega)]; simp; omega
       have e1 : ¬ L.length < 8 := by omega
       simp [br1, br2, brN, brE, brL, e1, hb, brH, hc]; done)
theorem bright_ne {h l : Nat} (hb : bright h l = true) : bref h l = bbytes h l := by
  have := bright_iff.1 hb
  unfold bref bbytes
  rw [hb, this.2]
  by_cases e : l = 0 <;> simp [e]
noncomputable def c19 : Ct := fun A args => match args with
  | [.agg [.int .u64 h, .int .u64 l]] => some (some (A.tp fun _ => r64 h ∧ r64 l), r19 A h l)
  | _ => none
noncomputable def gb : Ar → Pu := addC 119 c19 (addC 94 c20 ga)
theorem gb_ok : PuOk Tryz.prog gl0 (gb std) := by
  refine addC_ok (addC_ok ga_ok ⟨_, Tryz.func94, rfl, by decide⟩ ?_) ⟨_, Tryz.func119, rfl, by decide⟩ ?_
  · intro args p r h hp
    unfold c20 at h
    split at h <;> cases h
    exact good_sv (good21 _ (by rw [lstOf_length hp.1]; exact hp.2)) ⟨hp.1.sv, trivial⟩
  · intro args p r h hp
    unfold c19 at h
    split at h <;> cases h
    exact good19 hp.1 hp.2
end Go.Vd

set_option linter.unusedVariables false
set_option linter.unusedSimpArgs false
set_option maxRecDepth 100000
set_option maxHeartbeats 8000000
namespace Go.Vd
open Go.Proofs
noncomputable def c_rHas2 : Ct := fun A args => match args with
  | [.agg [.int .u64 h, .int .u64 l], .int .i64 n] => some (some (A.tp fun _ => r64 h ∧ r64 l), r13 A h l n)
  | _ => none
noncomputable def c_rRead2 : Ct := fun A args => match args with
  | [.slc n 1 f] => some (some (A.tp fun _ => isRow eB 0 1 n f ∧ n ≤ 9223372036854775807), r20 A fun _ => lstOf eB 0 1 n f)
  | _ => none
noncomputable def c_rRead8 : Ct := fun A args => match args with
  | [.int .i64 n, .slc m 1 f] => some (some (A.tp fun _ => isRow eB 0 1 m f ∧ m ≤ 1000000), .tup [.str (A.ts fun _ => (fRd n (lstOf eB 0 1 m f)).1), .int .i64 (A.ti fun _ => ((fRd n (lstOf eB 0 1 m f)).2.1 : Int)), .int .i64 (A.ti fun _ => (fRd n (lstOf eB 0 1 m f)).2.2)])
  | _ => none
noncomputable def gM8 : Ar → Pu := addC 95 c_rHas2 (addC 94 c_rRead2 (addC 96 c_rRead8 (gM7)))
theorem gM8_ok : PuOk Tryz.prog gl0 (gM8 std) := by
  refine addC_ok (addC_ok (addC_ok (gM7_ok) ⟨_, Tryz.func96, rfl, by decide⟩ ?_) ⟨_, Tryz.func94, rfl, by decide⟩ ?_) ⟨_, Tryz.func95, rfl, by decide⟩ ?_
  · intro args p r h hp
    unfold c_rRead8 at h
    split at h <;> cases h
    exact good_sv (good_rRead _ _ (by rw [lstOf_length hp.1]; exact hp.2)) ⟨rfl, hp.1.sv, trivial⟩
  · intro args p r h hp
    unfold c_rRead2 at h
    split at h <;> cases h
    exact good_sv (good21 _ (by rw [lstOf_length hp.1]; exact hp.2)) ⟨hp.1.sv, trivial⟩
  · intro args p r h hp
    unfold c_rHas2 at h
    split at h <;> cases h
    exact good14 _ hp.1 hp.2
theorem bfTo_pre (h l f : Nat) (hf : 2 ≤ f) : ∀ k, ∃ G, bfieldsTo h l (f + k) = bfieldsTo h l f ++ G
  | 0 => ⟨[], by simp⟩
  | k + 1 => by
    obtain ⟨G, hG⟩ := bfTo_pre h l f hf k
    have := bfieldsTo_succ h l (f + k) (by omega)
    rw [show f + k + 1 = f + (k + 1) by omega] at this
    rw [this]
    split
    · exact ⟨_, by rw [hG, List.append_assoc]⟩
    · exact ⟨_, hG⟩
theorem rIt_err {h l f : Nat} {X : List UInt8} (hf : 2 ≤ f) (hf2 : f ≤ 129) (he : ¬(itF (bfieldsTo h l f) X).1 = 0) : itF (bfields h l) X = itF (bfieldsTo h l f) X := by
  obtain ⟨G, hG⟩ := bfTo_pre h l f hf (129 - f)
  rw [show f + (129 - f) = 129 by omega] at hG
  unfold bfields
  rw [hG]
  unfold itF at *
  rw [List.foldl_append, it_stop _ _ he]
theorem rIt_yes {h l f : Nat} {X : List UInt8} {I : List It} {d : Nat} (hf : 2 ≤ f) (hb : bhas h l f = true) (hI : itF (bfieldsTo h l f) X = (0, I, X.drop d)) :
    itF (bfieldsTo h l (f + 1)) X = itStep (0, I, X.drop d) (f : Int) := by
  rw [bfieldsTo_succ h l f hf, if_pos hb, itF_snoc, hI]
theorem rIt_no {h l f : Nat} {X : List UInt8} (hf : 2 ≤ f) (hb : bhas h l f = false) : itF (bfieldsTo h l (f + 1)) X = itF (bfieldsTo h l f) X := by
  rw [bfieldsTo_succ h l f hf, hb]; rfl
theorem rIt_end {h l : Nat} {X C : List UInt8} {I : List It} (hI : itF (bfieldsTo h l 129) X = (0, I, C)) : I = [] ↔ bfields h l = [] := by
  have g := it_good _ _ _ _ _ (show (bfields h l).foldl itStep (0, [], X) = (0, I, C) from hI)
  obtain ⟨L, hL, hF, _, _⟩ := g
  rw [List.nil_append] at hL
  subst hL
  constructor
  · intro e; rw [← hF, e]; rfl
  · intro e; rw [e] at hF; exact List.map_eq_nil_iff.1 hF
theorem rIt_le {h l f : Nat} {X : List UInt8} (hf : 2 ≤ f) (hf2 : f ≤ 129) : (itF (bfieldsTo h l f) X).2.1.length ≤ 129 := by
  have h1 := (itF_len (bfieldsTo h l f) X).1
  have h2 := bfields_len h l
  obtain ⟨G, hG⟩ := bfTo_pre h l f hf (129 - f)
  rw [show f + (129 - f) = 129 by omega] at hG
  unfold bfields at h2
  rw [hG, List.length_append] at h2
  omega
/-- At field f, byte a of B: what was read so far. -/
def rOk (B : List UInt8) (f a : Nat) (I : List It) : Prop := 2 ≤ f ∧ f ≤ 129 ∧ a ≤ B.length ∧ itF (bfieldsTo (br1 (B.drop 4)) (br2 (B.drop 4)) f) ((mC B).drop (brN (mC B)).toNat) = (0, I, B.drop a)
def rS (B : List UInt8) : Nat := 4 + (brN (B.drop 4)).toNat
theorem rOk_0 {B : List UInt8} (h4 : ¬B.length < 4) (hE : brE (B.drop 4) = 0) : rOk B 2 (rS B) [] := by
  have hN := brN_le (B.drop 4)
  have h := hN.2.2 hE
  rw [List.length_drop] at h
  refine ⟨by omega, by omega, by unfold rS; omega, ?_⟩
  show itF [] _ = _
  unfold itF mC rS
  rw [List.foldl_nil, List.drop_drop]
theorem rOk_no {B : List UInt8} {f a : Nat} {I : List It} (h : rOk B f a I) (hf : f ≤ 128) (hb : bhas (br1 (B.drop 4)) (br2 (B.drop 4)) (f : Int) = false) : rOk B (f + 1) a I := by
  obtain ⟨h1, h2, h3, h4⟩ := h
  exact ⟨by omega, by omega, h3, by rw [rIt_no h1 hb]; exact h4⟩
theorem rOk_step {B : List UInt8} {f a : Nat} {I : List It} (h : rOk B f a I) (hb : bhas (br1 (B.drop 4)) (br2 (B.drop 4)) (f : Int) = true) : itF (bfieldsTo (br1 (B.drop 4)) (br2 (B.drop 4)) (f + 1)) ((mC B).drop (brN (mC B)).toNat) = itStep (0, I, B.drop a) (f : Int) := by
  obtain ⟨h1, h2, h3, h4⟩ := h
  rw [bfieldsTo_succ _ _ f h1, if_pos hb, itF_snoc, h4]
theorem rOk_yes {B : List UInt8} {f a : Nat} {I : List It} (h : rOk B f a I) (hf : f ≤ 128) (hb : bhas (br1 (B.drop 4)) (br2 (B.drop 4)) (f : Int) = true) (he : (fRd f (B.drop a)).2.2 = 0) : rOk B (f + 1) (a + (fRd f (B.drop a)).2.1) (I ++ [((f : Int), (fRd f (B.drop a)).1)]) := by
  have hst := rOk_step h hb
  rw [it_yes he, List.drop_drop] at hst
  have hr := rd_le f (B.drop a)
  rw [List.length_drop] at hr
  have h3 := h.2.2.1
  have h1 := h.1
  exact ⟨by omega, by omega, by omega, hst⟩
theorem rOk_err {B : List UInt8} {f a : Nat} {I : List It} (h : rOk B f a I) (hf : f ≤ 128) (hb : bhas (br1 (B.drop 4)) (br2 (B.drop 4)) (f : Int) = true) (he : ¬(fRd f (B.drop a)).2.2 = 0) (h4 : ¬B.length < 4) (hT : mT (B.take 4) = true) (hE : brE (B.drop 4) = 0) : mRe B = (fRd f (B.drop a)).2.2 := by
  have h1 := h.1
  have hst := rOk_step h hb
  rw [it_no he] at hst
  have hI := rIt_err (h := br1 (B.drop 4)) (l := br2 (B.drop 4)) (X := (mC B).drop (brN (mC B)).toNat) (f := f + 1) (by omega) (by omega) (by rw [hst]; exact he)
  rw [hst] at hI
  have hI2 : mIt B = ((fRd f (B.drop a)).2.2, [], []) := hI
  have hne : ¬mFs B = [] := fun e => by
    unfold mIt at hI2
    rw [e] at hI2
    have := congrArg (fun o => o.1) hI2
    exact he this.symm
  rw [mRe_5 h4 hT hE hne (by rw [hI2]; exact he), hI2]
theorem rOk_end {B : List UInt8} {a : Nat} {I : List It} (h : rOk B 129 a I) (h4 : ¬B.length < 4) (hT : mT (B.take 4) = true) (hE : brE (B.drop 4) = 0) :
    (I = [] → mRe B = 3) ∧ (¬I = [] → a < B.length → mRe B = 4) ∧ (¬I = [] → ¬a < B.length → mRe B = 0 ∧ mRL B = I ∧ mRT B = B.take 4) := by
  have hI : mIt B = (0, I, B.drop a) := h.2.2.2
  have hn := rIt_end h.2.2.2
  have hF : mFs B = bfields (br1 (B.drop 4)) (br2 (B.drop 4)) := rfl
  have h3 := h.2.2.1
  refine ⟨fun e => mRe_4 h4 hT hE (by rw [hF]; exact hn.1 e), fun e ha => ?_, fun e ha => ?_⟩
  · rw [mRe_6 h4 hT hE (by rw [hF]; exact fun q => e (hn.2 q)) (by rw [hI]), hI]
    rw [if_neg]
    intro q
    have := congrArg List.length q
    simp at this
    omega
  · have h0 : mRe B = 0 := by
      rw [mRe_6 h4 hT hE (by rw [hF]; exact fun q => e (hn.2 q)) (by rw [hI]), hI]
      exact if_pos (List.drop_eq_nil_of_le (by omega))
    refine ⟨h0, ?_, ?_⟩
    · unfold mRL; rw [if_pos h0, hI]
    · unfold mRT; rw [if_pos h0]
theorem at_add {a n a' L : Nat} (h : a' = a + n) (hn : n ≤ L - a) (ha : a ≤ L) (hL : L ≤ 1000000) : IntKind.i64.wrap ((a : Int) + (n : Int)) = (a' : Int) := by
  rw [w64 (by omega)]; omega
theorem good_rRead4 (B : List UInt8) (hB : B.length ≤ 1000000) : GoodP Tryz.prog gl0 44 [rowS eB 0 1 std fun _ => B] (.tup [.agg [.str (std.ts fun _ => mRT B), rowS eI (0, []) 2 std fun _ => mRL B], .int .i64 (std.ti fun _ => mRe B)]) := by
  refine fn_sound' (T := seatT) (G := gM8) (X := noX) seatT_ok gM8_ok noX_ok noI_ok mixed Tryz.func44 (.none) (fun A => [rowS eB 0 1 A fun _ => B]) (fun A => .tup [.agg [.str (A.ts fun _ => mRT B), rowS eI (0, []) 2 A fun _ => mRL B], .int .i64 (A.ti fun _ => mRe B)]) fun A hA => ?_
  cbv
  repeat' (first | with_reducible exact True.intro | with_reducible exact dr_ok hA (by kernel_rfl) | with_reducible refine And.intro ?_ ?_ | (intro hc; cbv))
  all_goals (have hN := brN_le (List.drop 4 B))
  all_goals (have hcut := cut4 B)
  all_goals (have hw : IntKind.i64.wrap (4 + brN (List.drop 4 B)) = 4 + brN (List.drop 4 B) := w64 (by omega))
  all_goals (have hfl := bfields_len (br1 (List.drop 4 B)) (br2 (List.drop 4 B)))
  all_goals first
    | (fail_if_success (refine Exists.intro ?_ ?_)
       subst hA; simp [-List.getD_eq_getElem?_getD, sS, strOf_lit, lstOf_lit inj_eB, lstOf_lit inj_eZ, lstOf_lit inj_eBs, lstOf_lit inj_eS, isRow_lit, isB_lit, isRow_nil, lstOf_nil inj_eB, lstOf_nil inj_eZ, lstOf_nil inj_eBs, lstOf_nil inj_eS, lst_drop, row_drop] at *
       first
         | omega
         | exact isB_any B 4
         | (have h4 : B.length < 4 := by omega
            have h := mRe_1 h4
            have hb := mR_bad (B := B) (by rw [h]; decide)
            first
              | (rw [h]; done)
              | (rw [hb.1]; done)
              | (rw [hb.2]; done)
              | (rw [hb.2]; rfl))
         | (have h4 : ¬B.length < 4 := by omega
            have hT : strOfS 4 (rowF eB 0 std fun _ => B) = B.take 4 := cutS B (by omega)
            try simp only [hT] at *
            first
              | (have h1 : mT (B.take 4) = false := by assumption
                 have h := mRe_2 h4 h1
                 have hb := mR_bad (B := B) (by rw [h]; decide)
                 first
                   | (rw [h]; done)
                   | (rw [hb.1]; done)
                   | (rw [hb.2]; done)
                   | (rw [hb.2]; rfl))
              | (have h1 : mT (B.take 4) = true := by assumption
                 have h2 : ¬brE (mC B) = 0 := by assumption
                 have h := mRe_3 h4 h1 h2
                 have hb := mR_bad (B := B) (by rw [h]; exact h2)
                 first
                   | (rw [h]; done)
                   | (rw [h]; rfl)
                   | (rw [hb.1]; done)
                   | (rw [hb.2]; done)
                   | (rw [hb.2]; rfl))
              | trace_state)
         | trace_state)
    | skip
  have hh : ¬B.length < 4 ∧ mT (B.take 4) = true ∧ brE (B.drop 4) = 0 := by
    clear hcut hw hfl
    rename_i q1 q2
    clear hN
    subst hA; simp [-List.getD_eq_getElem?_getD, sS, strOf_lit, lstOf_lit inj_eB, lstOf_lit inj_eZ, lstOf_lit inj_eBs, lstOf_lit inj_eS, isRow_lit, isB_lit, isRow_nil, lstOf_nil inj_eB, lstOf_nil inj_eZ, lstOf_nil inj_eBs, lstOf_nil inj_eS, lst_drop, row_drop] at q1 q2 hc
    have hT : strOfS 4 (rowF eB 0 std fun _ => B) = B.take 4 := cutS B (by omega)
    simp only [hT] at q2
    exact ⟨by omega, q2, hc⟩
  obtain ⟨h4, hT, hE⟩ := hh
  have hS := rOk_0 h4 hE
  obtain ⟨a0, ha0⟩ : ∃ a0, a0 = rS B := ⟨_, rfl⟩
  rw [← ha0] at hS
  unfold rS at ha0
  refine ⟨⟨{p : Nat × Nat × List It // rOk B p.1 p.2.1 p.2.2}, fun b p => [(9, .int .i64 (p.1.1 : Nat)), (8, .int .i64 (p.1.2.1 : Nat))], fun b p => [(b, .row 107 2 (A.tn fun _ => p.1.2.2.length) (rowF eI (0, []) A fun _ => p.1.2.2)), (27, .box 51 [.str (A.strOf (A.toNat 4) (rowF eB 0 A fun _ => B)), .own b])], fun p => 129 - p.1.1, true⟩, ⟨⟨(2, a0, []), hS⟩, ?_⟩, ?_⟩
  · cbv
    subst hA
    clear hcut hfl
    simp (maxSteps := 4000000) [-List.getD_eq_getElem?_getD, sS, strOf_lit, lstOf_lit inj_eB, lstOf_lit inj_eZ, lstOf_lit inj_eBs, lstOf_lit inj_eS, isRow_lit, isB_lit, isRow_nil, lstOf_nil inj_eB, lstOf_nil inj_eZ, lstOf_nil inj_eBs, lstOf_nil inj_eS, lst_drop, row_drop, hw]
    first
      | omega
      | trace_state
  · rintro ⟨⟨f, a, I⟩, hI⟩
    simp only at hI
    have hf1 := hI.1
    have hf2 := hI.2.1
    have ha := hI.2.2.1
    have hIl : I.length ≤ 129 := by
      have := rIt_le (h := br1 (B.drop 4)) (l := br2 (B.drop 4)) (X := (mC B).drop (brN (mC B)).toNat) hf1 hf2
      rw [hI.2.2.2] at this
      exact this
    have hrl := rd_le f (B.drop a)
    rw [List.length_drop] at hrl
    clear hcut hw hfl hN hS
    cbv
    repeat' (first | with_reducible exact True.intro | with_reducible exact dr_ok hA (by kernel_rfl) | with_reducible refine And.intro ?_ ?_ | (intro hc; cbv))
    all_goals first
      | (fail_if_success (refine Exists.intro ?_ ?_)
         subst hA
         simp [-List.getD_eq_getElem?_getD, sS, strOf_lit, lstOf_lit inj_eB, lstOf_lit inj_eZ, lstOf_lit inj_eBs, lstOf_lit inj_eS, isRow_lit, isB_lit, isRow_nil, lstOf_nil inj_eB, lstOf_nil inj_eZ, lstOf_nil inj_eBs, lstOf_nil inj_eS, lst_drop, row_drop] at *
         first
           | done
           | omega
           | (constructor <;> omega)
           | assumption
           | exact br_r64 hE
           | (have hlt : f ≤ 128 := by omega
              have hb : bhas (br1 (B.drop 4)) (br2 (B.drop 4)) (f : Int) = true := by assumption
              have he : ¬(fRd f (B.drop a)).2.2 = 0 := by assumption
              have h := rOk_err hI hlt hb he (by omega) hT hE
              have hbd := mR_bad (B := B) (by rw [h]; exact he)
              first
                | (rw [h]; done)
                | (rw [hbd.1]; done)
                | (rw [hbd.2]; done)
                | (rw [hbd.2]; rfl))
           | (have hfe : f = 129 := by omega
              subst hfe
              have h := rOk_end hI (by omega) hT hE
              first
                | (have he : I = [] := by assumption
                   have h3 := h.1 he
                   have hbd := mR_bad (B := B) (by rw [h3]; decide)
                   first
                     | (rw [h3]; done)
                     | (rw [hbd.1]; done)
                     | (rw [hbd.2]; done)
                     | (rw [hbd.2]; rfl))
                | (have he : ¬I = [] := by assumption
                   first
                     | (have h3 := h.2.1 he (by omega)
                        have hbd := mR_bad (B := B) (by rw [h3]; decide)
                        first
                          | (rw [h3]; done)
                          | (rw [hbd.1]; done)
                          | (rw [hbd.2]; done)
                          | (rw [hbd.2]; rfl))
                     | (have h3 := h.2.2 he (by omega)
                        first
                          | (rw [h3.1]; done)
                          | (rw [h3.2.1]; done)
                          | (rw [h3.2.1]; exact (Reps.lit _).eqr)
                          | (rw [h3.2.2]; exact cutS B (by omega))
                          | (rw [h3.2.2]; done)
                          | trace_state)
                     | trace_state)
                | trace_state)
           | trace_state)
      | (have hlt : f ≤ 128 := by (subst hA; simp [sS] at *; omega)
         first
           | (have hb : bhas (br1 (B.drop 4)) (br2 (B.drop 4)) (f : Int) = false := by (subst hA; simp [-List.getD_eq_getElem?_getD, sS, strOf_lit, lstOf_lit inj_eB, lstOf_lit inj_eZ, lstOf_lit inj_eBs, lstOf_lit inj_eS, isRow_lit, isB_lit, isRow_nil, lstOf_nil inj_eB, lstOf_nil inj_eZ, lstOf_nil inj_eBs, lstOf_nil inj_eS, lst_drop, row_drop] at hc; exact hc)
              have hn := rOk_no hI hlt hb
              obtain ⟨f', hf'⟩ : ∃ f', f' = f + 1 := ⟨_, rfl⟩
              refine ⟨⟨(f', a, I), by rw [hf']; exact hn⟩, ?_, show 129 - f' < 129 - f by omega⟩
              cbv
              subst hA
              simp (maxSteps := 4000000) [-List.getD_eq_getElem?_getD, sS, strOf_lit, lstOf_lit inj_eB, lstOf_lit inj_eZ, lstOf_lit inj_eBs, lstOf_lit inj_eS, isRow_lit, isB_lit, isRow_nil, lstOf_nil inj_eB, lstOf_nil inj_eZ, lstOf_nil inj_eBs, lstOf_nil inj_eS, lst_drop, row_drop]
              first
                | exact (w64 (by omega)).trans (by omega)
                | trace_state)
           | (have hq : bhas (br1 (B.drop 4)) (br2 (B.drop 4)) (f : Int) = true ∧ (fRd f (B.drop a)).2.2 = 0 := by (subst hA; simp [-List.getD_eq_getElem?_getD, sS, strOf_lit, lstOf_lit inj_eB, lstOf_lit inj_eZ, lstOf_lit inj_eBs, lstOf_lit inj_eS, isRow_lit, isB_lit, isRow_nil, lstOf_nil inj_eB, lstOf_nil inj_eZ, lstOf_nil inj_eBs, lstOf_nil inj_eS, lst_drop, row_drop] at *; exact ⟨by assumption, by assumption⟩)
              have hn := rOk_yes hI hlt hq.1 hq.2
              obtain ⟨f', hf'⟩ : ∃ f', f' = f + 1 := ⟨_, rfl⟩
              obtain ⟨a', ha'⟩ : ∃ a', a' = a + (fRd f (B.drop a)).2.1 := ⟨_, rfl⟩
              obtain ⟨I', hI'⟩ : ∃ I', I' = I ++ [((f : Int), (fRd f (B.drop a)).1)] := ⟨_, rfl⟩
              refine ⟨⟨(f', a', I'), by rw [hf', ha', hI']; exact hn⟩, ?_, show 129 - f' < 129 - f by omega⟩
              cbv
              subst hA
              simp (maxSteps := 4000000) [-List.getD_eq_getElem?_getD, sS, strOf_lit, lstOf_lit inj_eB, lstOf_lit inj_eZ, lstOf_lit inj_eBs, lstOf_lit inj_eS, isRow_lit, isB_lit, isRow_nil, lstOf_nil inj_eB, lstOf_nil inj_eZ, lstOf_nil inj_eBs, lstOf_nil inj_eS, lst_drop, row_drop]
              refine ⟨⟨?_, ?_⟩, ?_, ?_⟩
              all_goals first | exact at_add ha' hrl ha hB | exact (w64 (by omega)).trans (by omega) | (rw [hI']; simp; done) | exact snoc_row rfl (cell_eI _ _) hI'.symm (by rw [hI']; simp) | trace_state)
           | trace_state)
      | trace_state
end Go.Vd

set_option linter.unusedVariables false
set_option linter.unusedSimpArgs false
set_option maxRecDepth 1000000
set_option maxHeartbeats 8000000
namespace Go.Vd
open Go.Proofs
noncomputable def c_rPut2 : Ct := fun A args => match args with
  | [.agg [.int .u64 h, .int .u64 l], .int .i64 n] => some (some (A.tp fun _ => r64 h ∧ r64 l), r7 A h l n)
  | _ => none
noncomputable def c_rBytes2 : Ct := fun A args => match args with
  | [.agg [.int .u64 h, .int .u64 l]] => some (some (A.tp fun _ => r64 h ∧ r64 l), r19 A h l)
  | _ => none
noncomputable def c_rWrite8 : Ct := fun A args => match args with
  | [.int .i64 n, .str L] => some (some (A.tp fun _ => L.length ≤ 1000000), rowS eB 0 1 A fun _ => fWx n L)
  | _ => none
noncomputable def gM9 : Ar → Pu := addC 117 c_rPut2 (addC 119 c_rBytes2 (addC 118 c_rWrite8 (gM8)))
theorem gM9_ok : PuOk Tryz.prog gl0 (gM9 std) := by
  refine addC_ok (addC_ok (addC_ok (gM8_ok) ⟨_, Tryz.func118, rfl, by decide⟩ ?_) ⟨_, Tryz.func119, rfl, by decide⟩ ?_) ⟨_, Tryz.func117, rfl, by decide⟩ ?_
  · intro args p r h hp
    unfold c_rWrite8 at h
    split at h <;> cases h
    exact good_rWrite _ _ hp
  · intro args p r h hp
    unfold c_rBytes2 at h
    split at h <;> cases h
    exact good19 hp.1 hp.2
  · intro args p r h hp
    unfold c_rPut2 at h
    split at h <;> cases h
    exact good8 _ hp.1 hp.2
/-- The bits of the first fields. -/
def rBt (L : List It) (i : Nat) (m : Nat × Nat) : Prop := bofS (fs (L.take i)) = some m ∧ bright m.1 m.2 = true ∧ m.1 < 18446744073709551616 ∧ m.2 < 18446744073709551616
theorem rBt_0 (L : List It) : rBt L 0 (0, 0) := ⟨rfl, by decide, by decide, by decide⟩
theorem rBt_next {L : List It} {i : Nat} {m : Nat × Nat} (h : rBt L i m) (hi : i < L.length) (hf : bfield (L.getD i (0, [])).1 = true) : rBt L (i + 1) (bput m.1 m.2 (L.getD i (0, [])).1) := by
  obtain ⟨h1, h2, h3, h4⟩ := h
  have hl := bput_lt (L.getD i (0, [])).1 h3 h4
  refine ⟨?_, bput_bright h2 hf, hl.1, hl.2⟩
  rw [fs_take hi, bofS_snoc, h1]
  show (if (bright m.1 m.2 && bfield (L.getD i (0, [])).1) = true then some (bput m.1 m.2 (L.getD i (0, [])).1) else none) = _
  rw [h2, hf]
  rfl
theorem rBt_end {L : List It} {m : Nat × Nat} (h : rBt L L.length m) : bref m.1 m.2 = mBits L := by
  obtain ⟨h1, h2, h3, h4⟩ := h
  rw [List.take_length] at h1
  rw [bright_ne h2]
  unfold mBits bof
  rw [h1]
  rfl
theorem fs_at {L : List It} (h : ∀ q ∈ fs L, bfield q = true) {i : Nat} (hi : i < L.length) : bfield (L.getD i (0, [])).1 = true := by
  apply h
  rw [List.getD_eq_getElem?_getD, List.getElem?_eq_getElem hi]
  exact List.mem_map.2 ⟨_, List.getElem_mem hi, rfl⟩
theorem fWx_ok {n : Int} {s : List UInt8} (h : rr n s = true) : fWx n s = fWr n s := (fWr_fWx h).symm
theorem w_succ9 {a b : Nat} (h : b = a + 1) (hb : a ≤ 1000000000000) : IntKind.i64.wrap ((a : Int) + 1) = (b : Int) := by
  rw [w64 (by omega)]; omega
theorem good_rWrite4 (T : List UInt8) (L : List It) (hr : mR T L = true) (hL : L.length ≤ 500) (hS : ∀ i, (L.getD i (0, [])).2.length ≤ 1000000) : GoodP Tryz.prog gl0 69 [.agg [.str T, rowS eI (0, []) 2 std fun _ => L]] (rowS eB 0 1 std fun _ => mW T L) := by
  refine fn_sound' (T := seatT.own) (G := gM9) (X := cvX) (tys_own seatT_ok) gM9_ok cvX_ok noI_ok mixed Tryz.func69 (.none) (fun A => [.agg [.str T, rowS eI (0, []) 2 A fun _ => L]]) (fun A => rowS eB 0 1 A fun _ => mW T L) fun A hA => ?_
  cbv
  repeat' (first | with_reducible exact True.intro | with_reducible exact dr_ok hA (by kernel_rfl) | with_reducible refine And.intro ?_ ?_ | (intro hc; cbv))
  have hri := mR_iff.1 hr
  have hbf := fs_bf hri.2.2.1
  refine ⟨⟨{p : Nat × (Nat × Nat) × List UInt8 // p.1 ≤ L.length ∧ rBt L p.1 p.2.1 ∧ p.2.2 = body (L.take p.1)}, fun b p => [(5, .int .i64 (p.1.1 : Nat)), (4, .own b)], fun b p => [(b, .row 5 1 (A.tn fun _ => p.1.2.2.length) (rowF eB 0 A fun _ => p.1.2.2)), (2, .box 127 [.int .u64 (A.ti fun _ => (p.1.2.1.1 : Nat)), .int .u64 (A.ti fun _ => (p.1.2.1.2 : Nat))])], fun p => L.length - p.1.1, true⟩, ⟨⟨(0, (0, 0), []), by omega, rBt_0 L, by simp [body]⟩, ?_⟩, ?_⟩
  · cbv
    subst hA
    simp [-List.getD_eq_getElem?_getD, sS]
  · rintro ⟨⟨i, ⟨h, l⟩, B⟩, hx⟩
    have hi := hx.1
    have hb := hx.2.1
    have hB := hx.2.2
    simp only at hi hb hB
    have hh : r64 (h : Nat) ∧ r64 (l : Nat) := ⟨r64_of hb.2.2.1, r64_of hb.2.2.2⟩
    rcases Nat.lt_or_ge i L.length with hlt | hge
    · have hrr := rr_at hri.2.2.1 hlt
      have hfw := fWx_ok hrr
      have hbl := body_len (L := L.take i) (fun x hx => hri.2.2.1 x (List.mem_of_mem_take hx))
      have hwl := fWr_len hrr
      have hsl := hS i
      have htl : (L.take i).length = i := by simp; omega
      rw [htl, ← hB] at hbl
      have hnb := rBt_next hb hlt (fs_at hbf hlt)
      cbv
      repeat' (first | with_reducible exact True.intro | with_reducible exact dr_ok hA (by kernel_rfl) | with_reducible refine And.intro ?_ ?_ | (intro hc; cbv))
      all_goals first
        | (fail_if_success (refine Exists.intro ?_ ?_)
           subst hA
           try dsimp only
           simp [-List.getD_eq_getElem?_getD, sS, strOf_lit, lstOf_lit inj_eB, lstOf_lit inj_eZ, lstOf_lit inj_eBs, lstOf_lit inj_eS, isRow_lit, isB_lit, isRow_nil, lstOf_nil inj_eB, lstOf_nil inj_eZ, lstOf_nil inj_eBs, lstOf_nil inj_eS, hfw]
           first
             | done
             | omega
             | with_reducible exact hh
             | with_reducible exact hsl
             | ((with_reducible refine And.intro ?_ ?_) <;> omega)
             | (exfalso; simp [-List.getD_eq_getElem?_getD, sS, strOf_lit, lstOf_lit inj_eB, lstOf_lit inj_eZ, lstOf_lit inj_eBs, lstOf_lit inj_eS, isRow_lit, isB_lit, isRow_nil, lstOf_nil inj_eB, lstOf_nil inj_eZ, lstOf_nil inj_eBs, lstOf_nil inj_eS] at hc; omega)
             | trace_state)
        | (obtain ⟨i', hi'⟩ : ∃ i', i' = i + 1 := ⟨_, rfl⟩
           obtain ⟨h', hh'⟩ : ∃ h', h' = (bput h l (L.getD i (0, [])).1).1 := ⟨_, rfl⟩
           obtain ⟨l', hl'⟩ : ∃ l', l' = (bput h l (L.getD i (0, [])).1).2 := ⟨_, rfl⟩
           obtain ⟨B', hB'⟩ : ∃ B', B' = body (L.take i') := ⟨_, rfl⟩
           have c1 : i' ≤ L.length := by omega
           have c2 : rBt L i' (h', l') := by rw [hi', hh', hl']; exact hnb
           refine ⟨⟨(i', (h', l'), B'), c1, c2, hB'⟩, ?_, show L.length - i' < L.length - i by omega⟩
           rw [hi', body_take hlt, ← hB] at hB'
           cbv
           subst hA
           simp [-List.getD_eq_getElem?_getD, sS, strOf_lit, lstOf_lit inj_eB, lstOf_lit inj_eZ, lstOf_lit inj_eBs, lstOf_lit inj_eS, isRow_lit, isB_lit, isRow_nil, lstOf_nil inj_eB, lstOf_nil inj_eZ, lstOf_nil inj_eBs, lstOf_nil inj_eS, hfw]
           exact ⟨w_succ9 hi' (by omega), ⟨by rw [hB']; simp, eqr_of (Reps.catE (.lit _) (.lit _) rfl) (by rw [hB']; simp) hB'.symm⟩, congrArg Nat.cast hh'.symm, congrArg Nat.cast hl'.symm⟩)
        | trace_state
    · have hie : i = L.length := by omega
      have hw : mW T L = T ++ (bref h l ++ B) := by
        rw [hie] at hb hB
        rw [hB, List.take_length, rBt_end hb]
        rfl
      have hbl := body_len (L := L) hri.2.2.1
      have hTl := mT_len hri.1
      have hBl : B = body L := by rw [hB, hie, List.take_length]
      rw [← hBl] at hbl
      have hrl : (bref h l).length ≤ 16 := by unfold bref; split <;> simp [be8_len]
      cbv
      repeat' (first | with_reducible exact True.intro | with_reducible exact dr_ok hA (by kernel_rfl) | with_reducible refine And.intro ?_ ?_ | (intro hc; cbv))
      all_goals first
        | (subst hA
           try dsimp only
           simp [-List.getD_eq_getElem?_getD, sS, strOf_lit, lstOf_lit inj_eB, lstOf_lit inj_eZ, lstOf_lit inj_eBs, lstOf_lit inj_eS, isRow_lit, isB_lit, isRow_nil, lstOf_nil inj_eB, lstOf_nil inj_eZ, lstOf_nil inj_eBs, lstOf_nil inj_eS]
           first
             | done
             | omega
             | exact hh
             | (constructor <;> omega)
             | (rw [hw]; simp; done)
             | (rw [hw]; simp; omega)
             | exact eqr_of (((Reps.bytesOf T (bytesOfS T) (fun i => rfl)).catE (.lit (bref h l)) rfl).catE (.lit B) (by simp)) (by rw [hw]; simp only [List.length_append]; omega) (by rw [hw, List.append_assoc])
             | (exfalso; simp [-List.getD_eq_getElem?_getD, sS, strOf_lit, lstOf_lit inj_eB, lstOf_lit inj_eZ, lstOf_lit inj_eBs, lstOf_lit inj_eS, isRow_lit, isB_lit, isRow_nil, lstOf_nil inj_eB, lstOf_nil inj_eZ, lstOf_nil inj_eBs, lstOf_nil inj_eS] at hc; omega)
             | trace_state)
        | trace_state
end Go.Vd

set_option linter.unusedVariables false
set_option linter.unusedSimpArgs false
set_option maxRecDepth 100000
set_option maxHeartbeats 8000000
namespace Go.Vd
open Go.Proofs
theorem beq_dec (x n : Int) : (x == n) = decide (x = n) := by rw [Bool.eq_iff_iff]; simp
theorem knR_ex : ∃ L : List (List UInt8), L = knL := ⟨_, rfl⟩
/-- The types, kept folded. -/
noncomputable def knR : List (List UInt8) := Classical.choose knR_ex
theorem knR_eq : knR = knL := Classical.choose_spec knR_ex
theorem knR_ty : knR = typesL := knR_eq
theorem knR_len : knR.length = 7 := by rw [knR_eq]; rfl
theorem kd_iff {T : List UInt8} {i : Nat} (hi : i < 7) : knR.getD i [] = T ↔ kdOf T = (i : Int) + 1 := by
  rw [knR_ty]
  constructor
  · exact kd_at hi
  · intro h
    unfold kdOf at h
    repeat' split at h
    all_goals first
      | (exfalso; omega)
      | (rename_i e
         subst e
         rcases (show i = 0 ∨ i = 1 ∨ i = 2 ∨ i = 3 ∨ i = 4 ∨ i = 5 ∨ i = 6 by omega) with rfl | rfl | rfl | rfl | rfl | rfl | rfl <;> first | rfl | (exfalso; omega))
theorem kd_le (T : List UInt8) : 0 ≤ kdOf T ∧ kdOf T ≤ 7 := by
  unfold kdOf
  repeat' split
  all_goals omega
theorem tyOf_R {k : Int} (h : 1 ≤ k ∧ k ≤ 7) : knR.getD (k - 1).toNat [] = tyOf k := by
  rw [knR_ty]
  rcases (show k = 1 ∨ k = 2 ∨ k = 3 ∨ k = 4 ∨ k = 5 ∨ k = 6 ∨ k = 7 by omega) with rfl | rfl | rfl | rfl | rfl | rfl | rfl <;> rfl
theorem good_rTypes  : GoodP Tryz.prog gl0 98 [] (rowS eS [] 1 std fun _ => knR) := by
  refine fn_sound' (T := seatT) (G := noC) (X := noX) seatT_ok noC_ok noX_ok noI_ok mixed Tryz.func98 (.none) (fun A => []) (fun A => rowS eS [] 1 A fun _ => knR) fun A hA => ?_
  cbv
  repeat' (first | with_reducible exact True.intro | with_reducible exact dr_ok hA (by kernel_rfl) | with_reducible refine And.intro ?_ ?_ | (intro hc; cbv))
  all_goals (subst hA; simp only [std_add, std_sub, std_mul, std_quo, std_rem, std_band, std_bor, std_bxor, std_shl, std_shr, std_eq, std_ne, std_lt, std_le, std_conv, std_not, std_beq, std_bne, std_ite, std_want, std_and2, std_sadd, std_seq, std_sne, std_slt, std_sle, std_sgt, std_sge, std_slen, std_sget, std_scut, std_ofNat, std_toNat, std_nsub, std_nadd, std_lenOf, std_nz, std_nneg, std_inb, std_upto, std_slt63, std_grow, std_imp, std_impN, std_tr, std_tb, std_ti, std_ts, std_tn, std_tp, std_nmin, std_makes, std_room, std_zeros, std_nilq, std_notq, std_eqi, std_eqn, std_eqb, std_eqs, std_eqv, std_cat, std_lst, std_rset, std_rcopy, std_shift, std_eqr, std_strOf, std_bytesOf, std_isB, std_zOf, zOf_int, std_isI, isI_int, std_getL, std_nmul, std_sOf, sOf_str, std_isS, isS_str])
  · rw [knR_eq]; rfl
  · rw [knR_eq]; exact (s_rep knL).eqr
theorem good_rOrigin (x : List UInt8) (hx : x.length ≤ 1000) : GoodP Tryz.prog gl0 101 [.str x] (.str (std.ts fun _ => frst x)) := by
  refine fn_sound' (T := seatT) (G := noC) (X := noX) seatT_ok noC_ok noX_ok noI_ok mixed Tryz.func101 (.one) (fun A => [.str x]) (fun A => .str (A.ts fun _ => frst x)) fun A hA => ?_
  cbv
  repeat' (first | with_reducible exact True.intro | with_reducible exact dr_ok hA (by kernel_rfl) | with_reducible refine And.intro ?_ ?_ | (intro hc; cbv))
  all_goals (subst hA; simp [std_add, std_sub, std_mul, std_quo, std_rem, std_band, std_bor, std_bxor, std_shl, std_shr, std_eq, std_ne, std_lt, std_le, std_conv, std_not, std_beq, std_bne, std_ite, std_want, std_and2, std_sadd, std_seq, std_sne, std_slt, std_sle, std_sgt, std_sge, std_slen, std_sget, std_scut, std_ofNat, std_toNat, std_nsub, std_nadd, std_lenOf, std_nz, std_nneg, std_inb, std_upto, std_slt63, std_grow, std_imp, std_impN, std_tr, std_tb, std_ti, std_ts, std_tn, std_tp, std_nmin, std_makes, std_room, std_zeros, std_nilq, std_notq, std_eqi, std_eqn, std_eqb, std_eqs, std_eqv, std_cat, std_lst, std_rset, std_rcopy, std_shift, std_eqr, std_strOf, std_bytesOf, std_isB, std_zOf, zOf_int, std_isI, isI_int, std_getL, std_nmul, std_sOf, sOf_str, std_isS, isS_str] at *)
  all_goals first
    | omega
    | (simp [frst]; done)
    | trace_state
theorem good_rAsks6 (k : Int) : GoodP Tryz.prog gl0 66 [.int .i64 k] (.bool (std.tb fun _ => dAsks k)) := by
  refine fn_sound' (T := seatT) (G := noC) (X := noX) seatT_ok noC_ok noX_ok noI_ok mixed Tryz.func66 (.one) (fun A => [.int .i64 k]) (fun A => .bool (A.tb fun _ => dAsks k)) fun A hA => ?_
  cbv
  repeat' (first | with_reducible exact True.intro | with_reducible exact dr_ok hA (by kernel_rfl) | with_reducible refine And.intro ?_ ?_ | (intro hc; cbv))
  all_goals (subst hA; simp [std_add, std_sub, std_mul, std_quo, std_rem, std_band, std_bor, std_bxor, std_shl, std_shr, std_eq, std_ne, std_lt, std_le, std_conv, std_not, std_beq, std_bne, std_ite, std_want, std_and2, std_sadd, std_seq, std_sne, std_slt, std_sle, std_sgt, std_sge, std_slen, std_sget, std_scut, std_ofNat, std_toNat, std_nsub, std_nadd, std_lenOf, std_nz, std_nneg, std_inb, std_upto, std_slt63, std_grow, std_imp, std_impN, std_tr, std_tb, std_ti, std_ts, std_tn, std_tp, std_nmin, std_makes, std_room, std_zeros, std_nilq, std_notq, std_eqi, std_eqn, std_eqb, std_eqs, std_eqv, std_cat, std_lst, std_rset, std_rcopy, std_shift, std_eqr, std_strOf, std_bytesOf, std_isB, std_zOf, zOf_int, std_isI, isI_int, std_getL, std_nmul, std_sOf, sOf_str, std_isS, isS_str] at *)
  all_goals first
    | (unfold dAsks; rw [Bool.eq_iff_iff]; simp; done)
    | (unfold dAsks; rw [Bool.eq_iff_iff]; simp; omega)
    | trace_state
noncomputable def c_rTypes : Ct := fun A args => match args with
  | [] => some (none, rowS eS [] 1 A fun _ => knR)
  | _ => none
noncomputable def c_rOrigin : Ct := fun A args => match args with
  | [.str x] => some (some (A.tp fun _ => x.length ≤ 1000), .str (A.ts fun _ => frst x))
  | _ => none
noncomputable def c_rAsks6 : Ct := fun A args => match args with
  | [.int .i64 k] => some (none, .bool (A.tb fun _ => dAsks k))
  | _ => none
noncomputable def c_rRight46 : Ct := fun A args => match args with
  | [.agg [.str T, .slc n 2 f]] => some (some (A.tp fun _ => isRow eI (0, []) 2 n f ∧ n ≤ 1000000 ∧ ∀ i, ((lstOf eI (0, []) 2 n f).getD i (0, [])).2.length ≤ 1000000), .bool (A.tb fun _ => mR T (lstOf eI (0, []) 2 n f)))
  | _ => none
noncomputable def gO7 : Ar → Pu := addC 98 c_rTypes (addC 101 c_rOrigin (addC 66 c_rAsks6 (addC 97 c_rRight46 (gO6))))
theorem gO7_ok : PuOk Tryz.prog gl0 (gO7 std) := by
  refine addC_ok (addC_ok (addC_ok (addC_ok (gO6_ok) ⟨_, Tryz.func97, rfl, by decide⟩ ?_) ⟨_, Tryz.func66, rfl, by decide⟩ ?_) ⟨_, Tryz.func101, rfl, by decide⟩ ?_) ⟨_, Tryz.func98, rfl, by decide⟩ ?_
  · intro args p r h hp
    unfold c_rRight46 at h
    split at h <;> cases h
    exact good_sv (good_rRight4 _ _ (by rw [lstOf_length hp.1]; exact hp.2.1) hp.2.2) ⟨⟨_, rfl, rfl, hp.1.sv, trivial⟩, trivial⟩
  · intro args p r h hp
    unfold c_rAsks6 at h
    split at h <;> cases h
    exact good_rAsks6 _
  · intro args p r h hp
    unfold c_rOrigin at h
    split at h <;> cases h
    exact good_rOrigin _ hp
  · intro args p r h hp
    unfold c_rTypes at h
    split at h <;> cases h
    exact good_rTypes
theorem good_rRight6 (k a s : Int) (p r c : List UInt8) (hp : p.length ≤ 100000) (hr : r.length ≤ 1000000) (hcc : c.length ≤ 1000000) : GoodP Tryz.prog gl0 27 [.agg [.int .i64 k, .str p, .int .u64 a, .int .u32 s, .str r, .str c]] (.bool (std.tb fun _ => dR k a s p r c)) := by
  refine fn_sound' (T := seatT) (G := gO7) (X := noX) seatT_ok gO7_ok noX_ok noI_ok mixed Tryz.func27 (.one) (fun A => [.agg [.int .i64 k, .str p, .int .u64 a, .int .u32 s, .str r, .str c]]) (fun A => .bool (A.tb fun _ => dR k a s p r c)) fun A hA => ?_
  cbv
  repeat' (first | with_reducible exact True.intro | with_reducible exact dr_ok hA (by kernel_rfl) | with_reducible refine And.intro ?_ ?_ | (intro hc; cbv))
  all_goals (subst hA; simp [-List.getD_eq_getElem?_getD, std_add, std_sub, std_mul, std_quo, std_rem, std_band, std_bor, std_bxor, std_shl, std_shr, std_eq, std_ne, std_lt, std_le, std_conv, std_not, std_beq, std_bne, std_ite, std_want, std_and2, std_sadd, std_seq, std_sne, std_slt, std_sle, std_sgt, std_sge, std_slen, std_sget, std_scut, std_ofNat, std_toNat, std_nsub, std_nadd, std_lenOf, std_nz, std_nneg, std_inb, std_upto, std_slt63, std_grow, std_imp, std_impN, std_tr, std_tb, std_ti, std_ts, std_tn, std_tp, std_nmin, std_makes, std_room, std_zeros, std_nilq, std_notq, std_eqi, std_eqn, std_eqb, std_eqs, std_eqv, std_cat, std_lst, std_rset, std_rcopy, std_shift, std_eqr, std_strOf, std_bytesOf, std_isB, std_zOf, zOf_int, std_isI, isI_int, std_getL, std_nmul, std_sOf, sOf_str, std_isS, isS_str] at *)
  all_goals first
    | omega
    | exact fun h1 h2 h3 => ⟨⟨⟨h1, h2⟩, h3⟩, hr⟩
    | (unfold dR
       rcases hc with ((hc | hc) | hc) | hc
       · rw [decide_eq_false (p := 1 ≤ k ∧ k ≤ 7) (by omega)]; rfl
       · rw [decide_eq_false (p := 1 ≤ k ∧ k ≤ 7) (by omega)]; rfl
       · rw [decide_eq_false (p := s ≤ 999999) (by omega)]; simp
       · rw [hc]; simp)
    | (have hd : dAsks k = true := by assumption
       have h20 : decide ((p.length : Int) < 20) = decide ((p.length : Int) ≤ 19) := by rw [Bool.eq_iff_iff]; simp; omega
       unfold dR
       rw [decide_eq_true hc.1.1, decide_eq_true hc.1.2, hc.2, if_pos hd, h20]
       simp only [Bool.true_and, Bool.and_assoc]
       cases c <;> rfl)
    | (have hd : dAsks k = false := by assumption
       unfold dR
       rw [decide_eq_true hc.1.1, decide_eq_true hc.1.2, hc.2, if_neg (by rw [hd]; simp), beq_dec]
       simp only [Bool.true_and, Bool.and_assoc]
       cases p <;> rfl)
    | trace_state
theorem i2r (n : Int) (x : List UInt8) (m : Int) (y : List UInt8) : Reps eI (0, []) 2 2 (lstS [[SV.int .i64 n, SV.str x], [SV.int .i64 m, SV.str y]]) [(n, x), (m, y)] := Reps.lst (l := [_, _]) (L := [(n, x), (m, y)]) ⟨cell_eI n x, cell_eI m y, trivial⟩
theorem dI_1 {k a s : Int} {p r c : List UInt8} (h : k = 5 ∨ k = 6) : dIs k a s p r c = [(2, p), (4, puS a 12), (11, puS s 6), (37, r), (90, frst (puS s 6))] := if_pos h
theorem dI_2 {k a s : Int} {p r c : List UInt8} (h : ¬(k = 5 ∨ k = 6)) (h1 : dAsks k = true) : dIs k a s p r c = [(2, p), (4, puS a 12), (11, puS s 6), (37, r)] := by unfold dIs; rw [if_neg h, if_pos h1]
theorem dI_3 {k a s : Int} {p r c : List UInt8} (h : ¬(k = 5 ∨ k = 6)) (h1 : dAsks k = false) : dIs k a s p r c = [(11, puS s 6), (37, r), (39, c)] := by unfold dIs; rw [if_neg h, if_neg (by rw [h1]; simp)]
theorem good_rMust6 (k : Int) : GoodP Tryz.prog gl0 99 [.int .i64 k] (rowS eZ 0 1 std fun _ => fOf k) := by
  refine fn_sound' (T := seatT) (G := gO7) (X := noX) seatT_ok gO7_ok noX_ok noI_ok mixed Tryz.func99 (.none) (fun A => [.int .i64 k]) (fun A => rowS eZ 0 1 A fun _ => fOf k) fun A hA => ?_
  cbv
  repeat' (first | with_reducible exact True.intro | with_reducible exact dr_ok hA (by kernel_rfl) | with_reducible refine And.intro ?_ ?_ | (intro hc; cbv))
  all_goals (subst hA; simp [std_add, std_sub, std_mul, std_quo, std_rem, std_band, std_bor, std_bxor, std_shl, std_shr, std_eq, std_ne, std_lt, std_le, std_conv, std_not, std_beq, std_bne, std_ite, std_want, std_and2, std_sadd, std_seq, std_sne, std_slt, std_sle, std_sgt, std_sge, std_slen, std_sget, std_scut, std_ofNat, std_toNat, std_nsub, std_nadd, std_lenOf, std_nz, std_nneg, std_inb, std_upto, std_slt63, std_grow, std_imp, std_impN, std_tr, std_tb, std_ti, std_ts, std_tn, std_tp, std_nmin, std_makes, std_room, std_zeros, std_nilq, std_notq, std_eqi, std_eqn, std_eqb, std_eqs, std_eqv, std_cat, std_lst, std_rset, std_rcopy, std_shift, std_eqr, std_strOf, std_bytesOf, std_isB, std_zOf, zOf_int, std_isI, isI_int, std_getL, std_nmul, std_sOf, sOf_str, std_isS, isS_str] at *)
  all_goals first
    | (rw [fo_1 (by omega)]; rfl)
    | (rw [fo_1 (by omega)]; exact (z_rep [2, 4, 11, 37, 90]).eqr)
    | (rw [fo_2 (by omega) (by assumption)]; rfl)
    | (rw [fo_2 (by omega) (by assumption)]; exact (z_rep [2, 4, 11, 37]).eqr)
    | (rw [fo_3 (by omega) (by assumption)]; rfl)
    | (rw [fo_3 (by omega) (by assumption)]; exact (z_rep [11, 37, 39]).eqr)
    | trace_state
theorem good_rWrite6 (k a s : Int) (p r c : List UInt8) (ha : 0 ≤ a ∧ a < 18446744073709551616) (hs : 0 ≤ s ∧ s < 4294967296) (hd : dR k a s p r c = true) : GoodP Tryz.prog gl0 70 [.agg [.int .i64 k, .str p, .int .u64 a, .int .u32 s, .str r, .str c]] (.agg [.str (std.ts fun _ => tyOf k), rowS eI (0, []) 2 std fun _ => dIs k a s p r c]) := by
  refine fn_sound' (T := seatT) (G := gO7) (X := noX) seatT_ok gO7_ok noX_ok noI_ok mixed Tryz.func70 (.none) (fun A => [.agg [.int .i64 k, .str p, .int .u64 a, .int .u32 s, .str r, .str c]]) (fun A => .agg [.str (A.ts fun _ => tyOf k), rowS eI (0, []) 2 A fun _ => dIs k a s p r c]) fun A hA => ?_
  cbv
  repeat' (first | with_reducible exact True.intro | with_reducible exact dr_ok hA (by kernel_rfl) | with_reducible refine And.intro ?_ ?_ | (intro hc; cbv))
  all_goals (subst hA; simp [-List.getD_eq_getElem?_getD, std_add, std_sub, std_mul, std_quo, std_rem, std_band, std_bor, std_bxor, std_shl, std_shr, std_eq, std_ne, std_lt, std_le, std_conv, std_not, std_beq, std_bne, std_ite, std_want, std_and2, std_sadd, std_seq, std_sne, std_slt, std_sle, std_sgt, std_sge, std_slen, std_sget, std_scut, std_ofNat, std_toNat, std_nsub, std_nadd, std_lenOf, std_nz, std_nneg, std_inb, std_upto, std_slt63, std_grow, std_imp, std_impN, std_tr, std_tb, std_ti, std_ts, std_tn, std_tp, std_nmin, std_makes, std_room, std_zeros, std_nilq, std_notq, std_eqi, std_eqn, std_eqb, std_eqs, std_eqv, std_cat, std_lst, std_rset, std_rcopy, std_shift, std_eqr, std_strOf, std_bytesOf, std_isB, std_zOf, zOf_int, std_isI, isI_int, std_getL, std_nmul, std_sOf, sOf_str, std_isS, isS_str] at *)
  all_goals (have hk := (dR_iff.1 hd).1)
  all_goals (have h6 := puS_len s 6)
  all_goals (have ht := tyOf_R hk)
  all_goals (have hw : IntKind.i64.wrap (k - 1) = k - 1 := w64 (by omega))
  all_goals (have hkl := knR_len)
  all_goals (simp only [u64_32 hs, hw, hkl] at *)
  all_goals first
    | omega
    | exact ht
    | (constructor <;> omega)
    | (exfalso
       have q := asks_tl (by omega : k = 5 ∨ k = 6)
       simp_all
       done)
    | (exfalso; simp_all; done)
    | (rw [dI_1 (by omega)]; rfl)
    | (rw [dI_1 (by omega)]; exact ((i2r _ _ _ _).cat (i2r _ _ _ _)).cat (i1r _ _) |>.eqr)
    | (rw [dI_2 (by omega) (by assumption)]; rfl)
    | (rw [dI_2 (by omega) (by assumption)]; exact ((i2r _ _ _ _).cat (i2r _ _ _ _)).eqr)
    | (rw [dI_3 (by omega) (by assumption)]; rfl)
    | (rw [dI_3 (by omega) (by assumption)]; exact ((i2r _ _ _ _).cat (i1r _ _)).eqr)
    | trace_state
end Go.Vd

set_option linter.unusedVariables false
set_option linter.unusedSimpArgs false
set_option maxRecDepth 100000
set_option maxHeartbeats 8000000
namespace Go.Vd
open Go.Proofs
noncomputable def c_rRight6 : Ct := fun A args => match args with
  | [.agg [.int .i64 k, .str p, .int .u64 a, .int .u32 s, .str r, .str c]] => some (some (A.tp fun _ => p.length ≤ 100000 ∧ r.length ≤ 1000000 ∧ c.length ≤ 1000000), .bool (A.tb fun _ => dR k a s p r c))
  | _ => none
noncomputable def c_rMust6 : Ct := fun A args => match args with
  | [.int .i64 k] => some (none, rowS eZ 0 1 A fun _ => fOf k)
  | _ => none
noncomputable def c_rWrite6 : Ct := fun A args => match args with
  | [.agg [.int .i64 k, .str p, .int .u64 a, .int .u32 s, .str r, .str c]] => some (some (A.tp fun _ => (0 ≤ a ∧ a < 18446744073709551616) ∧ (0 ≤ s ∧ s < 4294967296) ∧ dR k a s p r c = true), .agg [.str (A.ts fun _ => tyOf k), rowS eI (0, []) 2 A fun _ => dIs k a s p r c])
  | _ => none
noncomputable def gO8 : Ar → Pu := addC 27 c_rRight6 (addC 99 c_rMust6 (addC 70 c_rWrite6 (gO7)))
theorem gO8_ok : PuOk Tryz.prog gl0 (gO8 std) := by
  refine addC_ok (addC_ok (addC_ok (gO7_ok) ⟨_, Tryz.func70, rfl, by decide⟩ ?_) ⟨_, Tryz.func99, rfl, by decide⟩ ?_) ⟨_, Tryz.func27, rfl, by decide⟩ ?_
  · intro args p r h hp
    unfold c_rWrite6 at h
    split at h <;> cases h
    exact good_rWrite6 _ _ _ _ _ _ hp.1 hp.2.1 hp.2.2
  · intro args p r h hp
    unfold c_rMust6 at h
    split at h <;> cases h
    exact good_rMust6 _
  · intro args p r h hp
    unfold c_rRight6 at h
    split at h <;> cases h
    exact good_rRight6 _ _ _ _ _ _ hp.1 hp.2.1 hp.2.2
def kTo (T : List UInt8) (i : Nat) : Int := if kdOf T ≤ i then kdOf T else 0
theorem kTo_0 {T : List UInt8} (h : 1 ≤ kdOf T) : kTo T 0 = 0 := if_neg (by simp; omega)
theorem kTo_7 (T : List UInt8) : kTo T 7 = kdOf T := if_pos (by have := kd_le T; simp; omega)
theorem kTo_y {T : List UInt8} {i : Nat} (h : kdOf T = (i : Int) + 1) : kTo T (i + 1) = (i : Int) + 1 := by unfold kTo; rw [h, if_pos (by simp)]
theorem kTo_n {T : List UInt8} {i : Nat} (h : ¬kdOf T = (i : Int) + 1) : kTo T (i + 1) = kTo T i := by
  unfold kTo
  by_cases e : kdOf T ≤ (i : Int)
  · rw [if_pos e, if_pos (by push_cast; omega)]
  · rw [if_neg e, if_neg (by push_cast; omega)]
abbrev D5 := Int × Int × List UInt8 × List UInt8 × List UInt8
def d5s (o : D5) (x : It) : D5 := if x.1 = 2 then (o.1, o.2.1, x.2, o.2.2.2.1, o.2.2.2.2) else if x.1 = 4 then ((gVal x.2 : Int), o.2.1, o.2.2.1, o.2.2.2.1, o.2.2.2.2) else if x.1 = 11 then (o.1, IntKind.u32.wrap (gVal x.2 : Int), o.2.2.1, o.2.2.2.1, o.2.2.2.2) else if x.1 = 37 then (o.1, o.2.1, o.2.2.1, x.2, o.2.2.2.2) else if x.1 = 39 then (o.1, o.2.1, o.2.2.1, o.2.2.2.1, x.2) else o
def d5 (L : List It) : D5 := L.foldl d5s (0, 0, [], [], [])
theorem d5_take {L : List It} {j : Nat} (h : j < L.length) : d5 (L.take (j + 1)) = d5s (d5 (L.take j)) (L.getD j (0, [])) := by
  rw [← take_snoc (d := (0, [])) h]
  unfold d5
  rw [List.foldl_append]
  rfl
theorem fo5 {k : Int} : (fOf k).length = 5 ↔ (k = 5 ∨ k = 6) := by
  unfold fOf
  split
  · rename_i e; simp [e]
  · rename_i e
    split <;> simp [e]
theorem d5_fin {L : List It} {k : Int} (h : fs L = fOf k) : d5 L = ((if dAsks k = true then (gVal (mG L 4) : Int) else 0), IntKind.u32.wrap (gVal (mG L 11) : Int), (if dAsks k = true then mG L 2 else []), mG L 37, (if dAsks k = true then [] else mG L 39)) ∧ ((k = 5 ∨ k = 6) → (L.getD 4 (0, [])).2 = mG L 90 ∧ (L.getD 2 (0, [])).2 = mG L 11) := by
  by_cases t : k = 5 ∨ k = 6
  · rw [fo_1 t] at h
    rw [if_pos (asks_tl t), if_pos (asks_tl t), if_pos (asks_tl t)]
    obtain ⟨x1, x2, x3, x4, x5, rfl⟩ := fl5_of h
    exact ⟨rfl, fun _ => ⟨rfl, rfl⟩⟩
  · cases e : dAsks k
    · rw [fo_3 t e] at h
      obtain ⟨x1, x2, x3, rfl⟩ := fl3_of h
      exact ⟨rfl, fun q => absurd q t⟩
    · rw [fo_2 t e] at h
      obtain ⟨x1, x2, x3, x4, rfl⟩ := fl4_of h
      exact ⟨rfl, fun q => absurd q t⟩
theorem d5_five {T : List UInt8} {L : List It} {q : Int} (hkq : q = kdOf T) (hfs : fs L = fOf q) (h : (fOf q).length = 5) : (kdOf T = 5 ∨ kdOf T = 6) ∧ (L.getD 4 (0, [])).2 = mG L 90 ∧ (L.getD 2 (0, [])).2 = mG L 11 := ⟨hkq ▸ fo5.1 h, (d5_fin hfs).2 (fo5.1 h)⟩
theorem good_rRead6 (T : List UInt8) (L : List It) (hL : L.length ≤ 1000000) (hS : ∀ i, (L.getD i (0, [])).2.length ≤ 1000000) : GoodP Tryz.prog gl0 45 [.agg [.str T, rowS eI (0, []) 2 std fun _ => L]] (.tup [.agg [.int .i64 (std.ti fun _ => xK T L), .str (std.ts fun _ => xP T L), .int .u64 (std.ti fun _ => xA T L), .int .u32 (std.ti fun _ => xS T L), .str (std.ts fun _ => xR T L), .str (std.ts fun _ => xC T L)], .int .i64 (std.ti fun _ => dE T L)]) := by
  refine fn_sound' (T := seatT) (G := gO8) (X := noX) seatT_ok gO8_ok noX_ok noI_ok mixed Tryz.func45 (.one) (fun A => [.agg [.str T, rowS eI (0, []) 2 A fun _ => L]]) (fun A => .tup [.agg [.int .i64 (A.ti fun _ => xK T L), .str (A.ts fun _ => xP T L), .int .u64 (A.ti fun _ => xA T L), .int .u32 (A.ti fun _ => xS T L), .str (A.ts fun _ => xR T L), .str (A.ts fun _ => xC T L)], .int .i64 (A.ti fun _ => dE T L)]) fun A hA => ?_
  cbv
  repeat' (first | with_reducible exact True.intro | with_reducible exact dr_ok hA (by kernel_rfl) | with_reducible refine And.intro ?_ ?_ | (intro hc; cbv))
  all_goals first
    | (fail_if_success (refine Exists.intro ?_ ?_)
       subst hA
       simp [-List.getD_eq_getElem?_getD, sS, lstOf_lit inj_eI, isRow_lit] at *
       first
         | done
         | exact ⟨hL, hS⟩
         | (have e := de_1 hc
            have b := dE_bad (T := T) (L := L) (by rw [e]; decide)
            first | exact b.1.symm | exact b.2.1.symm | exact b.2.2.1.symm | exact b.2.2.2.1 | exact b.2.2.2.2.1 | exact b.2.2.2.2.2 | exact e.symm)
         | trace_state)
    | skip
  have hm : mR T L = true := by
    subst hA
    simpa [sS, lstOf_lit inj_eI] using hc
  have hT := kdOf_T (mR_iff.1 hm).1
  have hkl := knR_len
  clear hc
  refine ⟨⟨{q : Nat × Int // q.1 ≤ 7 ∧ q.2 = kTo T q.1}, fun b q => [(5, .int .i64 (q.1.1 : Nat))], fun b q => [(7, .box 29 [.int .i64 q.1.2, .str [], .int .u64 0, .int .u32 0, .str [], .str []])], fun q => 7 - q.1.1, true⟩, ⟨⟨(0, 0), by omega, (kTo_0 hT.1.1).symm⟩, ?_⟩, ?_⟩
  · cbv
    subst hA
    simp [-List.getD_eq_getElem?_getD, sS]
  · rintro ⟨⟨i, q⟩, hi, hq⟩
    simp only at hi hq
    cbv
    repeat' (first | with_reducible exact True.intro | with_reducible exact dr_ok hA (by kernel_rfl) | with_reducible refine And.intro ?_ ?_ | (intro hc; cbv))
    all_goals first
      | (fail_if_success (refine Exists.intro ?_ ?_)
         subst hA
         simp [-List.getD_eq_getElem?_getD, sS, lstOf_lit inj_eI, isRow_lit] at *
         first
           | done
           | omega
           | (have hk : q = kdOf T := by rw [hq, show i = 7 by omega, kTo_7]
              have hne : ¬fs L = fOf (kdOf T) := fun e => hc (by rw [hk, ← e]; simp [fs])
              have e := de_2 hm hne
              have b := dE_bad (T := T) (L := L) (by rw [e]; decide)
              first | exact b.1.symm | exact b.2.1.symm | exact b.2.2.1.symm | exact b.2.2.2.1 | exact b.2.2.2.2.1 | exact b.2.2.2.2.2 | exact e.symm)
           | trace_state)
      | (have hlt : i < 7 := by (subst hA; simp [-List.getD_eq_getElem?_getD, sS] at *; omega)
         have hy : knR.getD i [] = T := by (subst hA; simp [-List.getD_eq_getElem?_getD, sS] at *; exact hc)
         have hk := (kd_iff hlt).1 hy
         obtain ⟨i', hi'⟩ : ∃ i', i' = i + 1 := ⟨_, rfl⟩
         obtain ⟨q', hq'⟩ : ∃ q' : Int, q' = (i : Int) + 1 := ⟨_, rfl⟩
         refine ⟨⟨(i', q'), by omega, by rw [hi', kTo_y hk]; exact hq'⟩, ?_, show 7 - i' < 7 - i by omega⟩
         cbv
         subst hA
         simp [sS]
         first
           | done
           | (have h64 : IntKind.i64.wrap ((i : Int) + 1) = (i : Int) + 1 := w64 (by omega)
              rw [h64]
              exact ⟨by omega, hq'.symm⟩)
           | trace_state)
      | (have hlt : i < 7 := by (subst hA; simp [-List.getD_eq_getElem?_getD, sS] at *; omega)
         have hy : ¬knR.getD i [] = T := by (subst hA; simp [-List.getD_eq_getElem?_getD, sS] at *; exact hc)
         have hk : ¬kdOf T = (i : Int) + 1 := fun e => hy ((kd_iff hlt).2 e)
         obtain ⟨i', hi'⟩ : ∃ i', i' = i + 1 := ⟨_, rfl⟩
         refine ⟨⟨(i', q), by omega, by rw [hi', kTo_n hk]; exact hq⟩, ?_, show 7 - i' < 7 - i by omega⟩
         cbv
         subst hA
         simp [sS]
         first
           | exact (w64 (by omega)).trans (by omega)
           | trace_state)
      | skip
    have hkq : q = kdOf T := by
      have hie : i = 7 := by (subst hA; simp [sS] at *; omega)
      rw [hq, hie, kTo_7]
    have hlen : (fOf q).length = L.length := by
      subst hA
      simp [sS] at hc
      omega
    clear hc
    have hf5 := fOf_len q
    refine ⟨⟨{x : Nat × D5 // x.1 ≤ L.length ∧ (∀ j, j < x.1 → (L.getD j (0, [])).1 = (fOf q).getD j 0) ∧ x.2 = d5 (L.take x.1)}, fun b x => [(7, .int .i64 (x.1.1 : Nat))], fun b x => [(7, .box 29 [.int .i64 q, .str x.1.2.2.2.1, .int .u64 x.1.2.1, .int .u32 x.1.2.2.1, .str x.1.2.2.2.2.1, .str x.1.2.2.2.2.2])], fun x => L.length - x.1.1, true⟩, ⟨⟨(0, (0, 0, [], [], [])), by omega, fun j hj => absurd hj (by omega), rfl⟩, ?_⟩, ?_⟩
    · cbv
      subst hA
      simp [-List.getD_eq_getElem?_getD, sS]
    · rintro ⟨⟨j, xa, xs, xp, xr, xc⟩, hj, h0, hx⟩
      simp only at hj h0 hx
      rcases Nat.lt_or_ge j L.length with hjl | hjl
      · have hst := d5_take hjl
        rw [← hx] at hst
        cbv
        repeat' (first | with_reducible exact True.intro | with_reducible exact dr_ok hA (by kernel_rfl) | with_reducible refine And.intro ?_ ?_ | (intro hc; cbv))
        all_goals first
          | (fail_if_success (refine Exists.intro ?_ ?_)
             have hno := fun (h : ¬(L.getD j (0, [])).1 = (fOf q).getD j 0) => de_2 hm (hkq ▸ fs_no hjl h)
             clear hx hst h0
             subst hA
             simp [-List.getD_eq_getElem?_getD, sS] at *
             first
               | done
               | omega
               | (have e := hno (by assumption)
                  have b := dE_bad (T := T) (L := L) (by rw [e]; decide)
                  first | exact b.1.symm | exact b.2.1.symm | exact b.2.2.1.symm | exact b.2.2.2.1 | exact b.2.2.2.2.1 | exact b.2.2.2.2.2 | exact e.symm)
               | (exfalso; omega)
               | trace_state)
          | skip
        all_goals (have hne : (L.getD j (0, [])).1 = (fOf q).getD j 0 := by (clear h0 hst hx; subst hA; simp [-List.getD_eq_getElem?_getD, sS] at *; omega))
        all_goals first
        | (have e : (L.getD j (0, [])).1 = 2 := by (clear h0 hst hx; subst hA; simp [-List.getD_eq_getElem?_getD, sS] at *; omega)
           have hD : d5s (xa, xs, xp, xr, xc) (L.getD j (0, [])) = (xa, xs, (L.getD j (0, [])).2, xr, xc) := by unfold d5s; simp [-List.getD_eq_getElem?_getD, e]
           obtain ⟨y, hy⟩ : ∃ y : List UInt8, y = (L.getD j (0, [])).2 := ⟨_, rfl⟩
           rw [hD, ← hy] at hst
           obtain ⟨j', hj'⟩ : ∃ j', j' = j + 1 := ⟨_, rfl⟩
           refine ⟨⟨(j', xa, xs, y, xr, xc), by omega, fun m hm' => ?_, by rw [hj', hst]⟩, ?_, show L.length - j' < L.length - j by omega⟩
           · by_cases e : m = j
             · subst e; exact hne
             · exact h0 m (by omega)
           cbv
           subst hA
           simp [-List.getD_eq_getElem?_getD, sS]
           first
             | done
             | exact ⟨(w64 (by omega)).trans (by omega), hy.symm⟩
             | exact (w64 (by omega)).trans (by omega)
             | trace_state)
        | (have e : (L.getD j (0, [])).1 = 4 := by (clear h0 hst hx; subst hA; simp [-List.getD_eq_getElem?_getD, sS] at *; omega)
           have hD : d5s (xa, xs, xp, xr, xc) (L.getD j (0, [])) = ((gVal (L.getD j (0, [])).2 : Int), xs, xp, xr, xc) := by unfold d5s; simp [-List.getD_eq_getElem?_getD, e]
           obtain ⟨y, hy⟩ : ∃ y : Int, y = (gVal (L.getD j (0, [])).2 : Int) := ⟨_, rfl⟩
           rw [hD, ← hy] at hst
           obtain ⟨j', hj'⟩ : ∃ j', j' = j + 1 := ⟨_, rfl⟩
           refine ⟨⟨(j', y, xs, xp, xr, xc), by omega, fun m hm' => ?_, by rw [hj', hst]⟩, ?_, show L.length - j' < L.length - j by omega⟩
           · by_cases e : m = j
             · subst e; exact hne
             · exact h0 m (by omega)
           cbv
           subst hA
           simp [-List.getD_eq_getElem?_getD, sS]
           first
             | done
             | exact ⟨(w64 (by omega)).trans (by omega), hy.symm⟩
             | exact (w64 (by omega)).trans (by omega)
             | trace_state)
        | (have e : (L.getD j (0, [])).1 = 11 := by (clear h0 hst hx; subst hA; simp [-List.getD_eq_getElem?_getD, sS] at *; omega)
           have hD : d5s (xa, xs, xp, xr, xc) (L.getD j (0, [])) = (xa, IntKind.u32.wrap (gVal (L.getD j (0, [])).2 : Int), xp, xr, xc) := by unfold d5s; simp [-List.getD_eq_getElem?_getD, e]
           obtain ⟨y, hy⟩ : ∃ y : Int, y = IntKind.u32.wrap (gVal (L.getD j (0, [])).2 : Int) := ⟨_, rfl⟩
           rw [hD, ← hy] at hst
           obtain ⟨j', hj'⟩ : ∃ j', j' = j + 1 := ⟨_, rfl⟩
           refine ⟨⟨(j', xa, y, xp, xr, xc), by omega, fun m hm' => ?_, by rw [hj', hst]⟩, ?_, show L.length - j' < L.length - j by omega⟩
           · by_cases e : m = j
             · subst e; exact hne
             · exact h0 m (by omega)
           cbv
           subst hA
           simp [-List.getD_eq_getElem?_getD, sS]
           first
             | done
             | exact ⟨(w64 (by omega)).trans (by omega), hy.symm⟩
             | exact (w64 (by omega)).trans (by omega)
             | trace_state)
        | (have e : (L.getD j (0, [])).1 = 37 := by (clear h0 hst hx; subst hA; simp [-List.getD_eq_getElem?_getD, sS] at *; omega)
           have hD : d5s (xa, xs, xp, xr, xc) (L.getD j (0, [])) = (xa, xs, xp, (L.getD j (0, [])).2, xc) := by unfold d5s; simp [-List.getD_eq_getElem?_getD, e]
           obtain ⟨y, hy⟩ : ∃ y : List UInt8, y = (L.getD j (0, [])).2 := ⟨_, rfl⟩
           rw [hD, ← hy] at hst
           obtain ⟨j', hj'⟩ : ∃ j', j' = j + 1 := ⟨_, rfl⟩
           refine ⟨⟨(j', xa, xs, xp, y, xc), by omega, fun m hm' => ?_, by rw [hj', hst]⟩, ?_, show L.length - j' < L.length - j by omega⟩
           · by_cases e : m = j
             · subst e; exact hne
             · exact h0 m (by omega)
           cbv
           subst hA
           simp [-List.getD_eq_getElem?_getD, sS]
           first
             | done
             | exact ⟨(w64 (by omega)).trans (by omega), hy.symm⟩
             | exact (w64 (by omega)).trans (by omega)
             | trace_state)
        | (have e : (L.getD j (0, [])).1 = 39 := by (clear h0 hst hx; subst hA; simp [-List.getD_eq_getElem?_getD, sS] at *; omega)
           have hD : d5s (xa, xs, xp, xr, xc) (L.getD j (0, [])) = (xa, xs, xp, xr, (L.getD j (0, [])).2) := by unfold d5s; simp [-List.getD_eq_getElem?_getD, e]
           obtain ⟨y, hy⟩ : ∃ y : List UInt8, y = (L.getD j (0, [])).2 := ⟨_, rfl⟩
           rw [hD, ← hy] at hst
           obtain ⟨j', hj'⟩ : ∃ j', j' = j + 1 := ⟨_, rfl⟩
           refine ⟨⟨(j', xa, xs, xp, xr, y), by omega, fun m hm' => ?_, by rw [hj', hst]⟩, ?_, show L.length - j' < L.length - j by omega⟩
           · by_cases e : m = j
             · subst e; exact hne
             · exact h0 m (by omega)
           cbv
           subst hA
           simp [-List.getD_eq_getElem?_getD, sS]
           first
             | done
             | exact ⟨(w64 (by omega)).trans (by omega), hy.symm⟩
             | exact (w64 (by omega)).trans (by omega)
             | trace_state)
        | (have e : ¬(L.getD j (0, [])).1 = 2 ∧ ¬(L.getD j (0, [])).1 = 4 ∧ ¬(L.getD j (0, [])).1 = 11 ∧ ¬(L.getD j (0, [])).1 = 37 ∧ ¬(L.getD j (0, [])).1 = 39 := by (clear h0 hst hx; subst hA; simp [-List.getD_eq_getElem?_getD, sS] at *; omega)
           have hD : d5s (xa, xs, xp, xr, xc) (L.getD j (0, [])) = (xa, xs, xp, xr, xc) := by unfold d5s; simp [-List.getD_eq_getElem?_getD, e]
           rw [hD] at hst
           obtain ⟨j', hj'⟩ : ∃ j', j' = j + 1 := ⟨_, rfl⟩
           refine ⟨⟨(j', xa, xs, xp, xr, xc), by omega, fun m hm' => ?_, by rw [hj', hst]⟩, ?_, show L.length - j' < L.length - j by omega⟩
           · by_cases e : m = j
             · subst e; exact hne
             · exact h0 m (by omega)
           cbv
           subst hA
           simp [-List.getD_eq_getElem?_getD, sS]
           first
             | done
             | exact ⟨(w64 (by omega)).trans (by omega), hy.symm⟩
             | exact (w64 (by omega)).trans (by omega)
             | trace_state)
        | trace_state
      · have hfs : fs L = fOf q := fs_ext hlen.symm (fun m hm' => h0 m (by omega))
        have hfin := d5_fin hfs
        have hjL : L.take j = L := by rw [List.take_of_length_le hjl]
        rw [hjL, hfin.1] at hx
        simp only [Prod.mk.injEq] at hx
        obtain ⟨e1, e2, e3, e4, e5⟩ := hx
        have hfs' : fs L = fOf (kdOf T) := hkq ▸ hfs
        have g2 := mG_len hm 2
        have g11 := mG_len hm 11
        have hn := u32_6 (z := (gVal (mG L 11) : Int)) ⟨by omega, by have := mG_11 hm hfs'; omega⟩
        rw [hn] at e2
        cases ha : dAsks q
        · have ha' : dAsks (kdOf T) = false := hkq ▸ ha
          have e := de_3 hm hfs' ha'
          have hF5 : ¬(fOf q).length = 5 := fun e => by have := asks_tl (fo5.1 e); rw [ha] at this; cases this
          rw [ha] at e1 e3 e5
          simp only [Bool.false_eq_true, if_false] at e1 e3 e5
          cbv
          repeat' (first | with_reducible exact True.intro | with_reducible exact dr_ok hA (by kernel_rfl) | with_reducible refine And.intro ?_ ?_ | (intro hc; cbv))
          all_goals first
            | (exfalso; clear h0; subst hA; simp [-List.getD_eq_getElem?_getD, sS] at *; omega)
            | skip
          all_goals (clear h0; subst hA; simp [-List.getD_eq_getElem?_getD, sS, ha] at *)
          all_goals first
            | done
            | omega
            | (simp [xK, xA, xS, xP, xR, xC, e, ha', *]; done)
            | (unfold xK; rw [if_pos e]; exact hkq)
            | trace_state
        · have ha' : dAsks (kdOf T) = true := hkq ▸ ha
          rw [ha] at e1 e3 e5
          simp only [if_true] at e1 e3 e5
          clear hfin
          cbv
          repeat' (first | with_reducible exact True.intro | with_reducible exact dr_ok hA (by kernel_rfl) | with_reducible refine And.intro ?_ ?_ | (intro hc; cbv))
          all_goals first
            | (exfalso; clear h0; subst hA; simp [-List.getD_eq_getElem?_getD, sS] at *; omega)
            | skip
          all_goals (clear h0; subst hA; simp [-List.getD_eq_getElem?_getD, sS, ha] at *)
          all_goals first
            | done
            | omega
            | (rw [e3]; omega)
            | (have e := de_4 hm hfs' ha' (by rw [← e3]; exact hc)
               have b := dE_bad (T := T) (L := L) (by rw [e]; decide)
               first | exact b.1.symm | exact b.2.1.symm | exact b.2.2.1.symm | exact b.2.2.2.1 | exact b.2.2.2.2.1 | exact b.2.2.2.2.2 | exact e.symm)
            | exact fun h => ⟨h, by have q5 := d5_five hkq hfs (by omega); rw [q5.2.2]; omega⟩
            | (have q5 := d5_five hkq hfs (by omega)
               rw [q5.2.1, q5.2.2] at hc
               have e := de_5 hm hfs' ha' (by rw [← e3]; assumption) q5.1 hc.2
               have b := dE_bad (T := T) (L := L) (by rw [e]; decide)
               first | exact b.1.symm | exact b.2.1.symm | exact b.2.2.1.symm | exact b.2.2.2.1 | exact b.2.2.2.2.1 | exact b.2.2.2.2.2 | exact e.symm)
            | (have e := de_6 hm hfs' ha' (by rw [← e3]; assumption) (fun t => by
                 have h5 : (fOf q).length = 5 := fo5.2 (hkq ▸ t)
                 have q5 := d5_five hkq hfs h5
                 have := hc (by omega)
                 rw [q5.2.1, q5.2.2] at this
                 exact this)
               first
                 | (unfold xK; rw [if_pos e]; exact hkq)
                 | (unfold xA; rw [if_pos e, if_pos ha']; exact e1)
                 | (unfold xP; rw [if_pos e, if_pos ha']; exact e3)
                 | (unfold xS; rw [if_pos e]; exact e2)
                 | (unfold xR; rw [if_pos e]; exact e4)
                 | (unfold xC; rw [if_pos e, if_pos ha']; exact e5)
                 | exact e.symm)
            | trace_state
end Go.Vd

set_option linter.unusedVariables false
set_option linter.unusedSimpArgs false
set_option maxRecDepth 100000
set_option maxHeartbeats 8000000
namespace Go.Vd
open Go.Proofs
noncomputable def c_rRead6 : Ct := fun A args => match args with
  | [.agg [.str T, .slc n 2 f]] => some (some (A.tp fun _ => isRow eI (0, []) 2 n f ∧ n ≤ 1000000 ∧ ∀ i, ((lstOf eI (0, []) 2 n f).getD i (0, [])).2.length ≤ 1000000), .tup [.agg [.int .i64 (A.ti fun _ => xK T (lstOf eI (0, []) 2 n f)), .str (A.ts fun _ => xP T (lstOf eI (0, []) 2 n f)), .int .u64 (A.ti fun _ => xA T (lstOf eI (0, []) 2 n f)), .int .u32 (A.ti fun _ => xS T (lstOf eI (0, []) 2 n f)), .str (A.ts fun _ => xR T (lstOf eI (0, []) 2 n f)), .str (A.ts fun _ => xC T (lstOf eI (0, []) 2 n f))], .int .i64 (A.ti fun _ => dE T (lstOf eI (0, []) 2 n f))])
  | _ => none
noncomputable def gO9 : Ar → Pu := addC 45 c_rRead6 (gO8)
theorem gO9_ok : PuOk Tryz.prog gl0 (gO9 std) := by
  refine addC_ok (gO8_ok) ⟨_, Tryz.func45, rfl, by decide⟩ ?_
  · intro args p r h hp
    unfold c_rRead6 at h
    split at h <;> cases h
    exact good_sv (good_rRead6 _ _ (by rw [lstOf_length hp.1]; exact hp.2.1) hp.2.2) ⟨⟨_, rfl, rfl, hp.1.sv, trivial⟩, trivial⟩
end Go.Vd

set_option linter.unusedVariables false
set_option linter.unusedSimpArgs false
set_option maxRecDepth 100000
set_option maxHeartbeats 8000000
namespace Go.Vd
open Go.Proofs
theorem opOk_iff {B : List UInt8} : opOk B = true ↔ (¬B.length < 3 ∧ fLen B + 2 = B.length) ∧ ¬2050 < B.length := by
  constructor
  · intro h
    have g := op_ok h
    have hl : B.length = (opM B).length + 2 := by
      have := congrArg List.length g.1
      rw [fPutL_len] at this
      exact this
    have hf := fLen_put (L := opM B) [] (by omega)
    rw [List.append_nil, ← g.1] at hf
    omega
  · intro ⟨⟨h1, h2⟩, h3⟩
    have h0 : ¬B.length < 2 := by omega
    have hm : fMay (fLen B) = true := fMay_iff.2 (by omega)
    have hp := fParse_more h0 hm (by omega)
    have e0 : fParse ([] : List UInt8) = ([], [], false) := fParse_short (by decide)
    rw [List.drop_eq_nil_of_le (show B.length ≤ 2 + fLen B by omega), e0] at hp
    unfold opOk
    rw [fFeed_go ok0, List.nil_append, hp]
    rfl
theorem opM_eq {B : List UInt8} (h : opOk B = true) : opM B = B.drop 2 := by
  have g := op_ok h
  have := congrArg (List.drop 2) g.1
  exact this.symm
theorem fLen_at {B : List UInt8} (h : 2 ≤ B.length) : fLen B = 256 * (B.getD 0 0).toNat + (B.getD 1 0).toNat := by
  match B, h with
  | x :: y :: T, _ => rfl
theorem wr_len (x y : UInt8) : IntKind.i64.wrap (IntKind.i64.wrap (256 * IntKind.i64.wrap (x.toNat : Int)) + IntKind.i64.wrap (y.toNat : Int)) = 256 * (x.toNat : Int) + (y.toNat : Int) := by
  have h1 := x.toNat_lt
  have h2 := y.toNat_lt
  rw [w64 (n := (x.toNat : Int)) (by omega), w64 (n := (y.toNat : Int)) (by omega), w64 (n := 256 * (x.toNat : Int)) (by omega), w64 (by omega)]
noncomputable def c_rfPut5 : Ct := fun A args => match args with
  | [.slc n 1 f] => some (some (A.tp fun _ => isRow eB 0 1 n f ∧ n ≤ 1000000), rowS eB 0 1 A fun _ => fPutL (lstOf eB 0 1 n f))
  | _ => none
noncomputable def c_rRead65 : Ct := fun A args => match args with
  | [.agg [.str T, .slc n 2 f]] => some (some (A.tp fun _ => isRow eI (0, []) 2 n f ∧ n ≤ 1000000 ∧ ∀ i, ((lstOf eI (0, []) 2 n f).getD i (0, [])).2.length ≤ 1000000), .tup [.agg [.int .i64 (A.ti fun _ => xK T (lstOf eI (0, []) 2 n f)), .str (A.ts fun _ => xP T (lstOf eI (0, []) 2 n f)), .int .u64 (A.ti fun _ => xA T (lstOf eI (0, []) 2 n f)), .int .u32 (A.ti fun _ => xS T (lstOf eI (0, []) 2 n f)), .str (A.ts fun _ => xR T (lstOf eI (0, []) 2 n f)), .str (A.ts fun _ => xC T (lstOf eI (0, []) 2 n f))], .int .i64 (A.ti fun _ => dE T (lstOf eI (0, []) 2 n f))])
  | _ => none
noncomputable def c_rRead45 : Ct := fun A args => match args with
  | [.slc n 1 f] => some (some (A.tp fun _ => isRow eB 0 1 n f ∧ n ≤ 1000000), .tup [.agg [.str (A.ts fun _ => mRT (lstOf eB 0 1 n f)), rowS eI (0, []) 2 A fun _ => mRL (lstOf eB 0 1 n f)], .int .i64 (A.ti fun _ => mRe (lstOf eB 0 1 n f))])
  | _ => none
noncomputable def c_rWrite45 : Ct := fun A args => match args with
  | [.agg [.str T, .slc n 2 f]] => some (some (A.tp fun _ => isRow eI (0, []) 2 n f ∧ mR T (lstOf eI (0, []) 2 n f) = true ∧ n ≤ 500 ∧ ∀ i, ((lstOf eI (0, []) 2 n f).getD i (0, [])).2.length ≤ 1000000), rowS eB 0 1 A fun _ => mW T (lstOf eI (0, []) 2 n f))
  | _ => none
noncomputable def gT6 : Ar → Pu := addC 68 c_rfPut5 (addC 45 c_rRead65 (addC 44 c_rRead45 (addC 69 c_rWrite45 (gO8))))
theorem gT6_ok : PuOk Tryz.prog gl0 (gT6 std) := by
  refine addC_ok (addC_ok (addC_ok (addC_ok (gO8_ok) ⟨_, Tryz.func69, rfl, by decide⟩ ?_) ⟨_, Tryz.func44, rfl, by decide⟩ ?_) ⟨_, Tryz.func45, rfl, by decide⟩ ?_) ⟨_, Tryz.func68, rfl, by decide⟩ ?_
  · intro args p r h hp
    unfold c_rWrite45 at h
    split at h <;> cases h
    exact good_sv (good_rWrite4 _ _ hp.2.1 (by rw [lstOf_length hp.1]; exact hp.2.2.1) hp.2.2.2) ⟨⟨_, rfl, rfl, hp.1.sv, trivial⟩, trivial⟩
  · intro args p r h hp
    unfold c_rRead45 at h
    split at h <;> cases h
    exact good_sv (good_rRead4 _ (by rw [lstOf_length hp.1]; exact hp.2)) ⟨hp.1.sv, trivial⟩
  · intro args p r h hp
    unfold c_rRead65 at h
    split at h <;> cases h
    exact good_sv (good_rRead6 _ _ (by rw [lstOf_length hp.1]; exact hp.2.1) hp.2.2) ⟨⟨_, rfl, rfl, hp.1.sv, trivial⟩, trivial⟩
  · intro args p r h hp
    unfold c_rfPut5 at h
    split at h <;> cases h
    exact good_sv (good_rfPut _ (by rw [lstOf_length hp.1]; exact hp.2)) ⟨hp.1.sv, trivial⟩
theorem good_rLetter (k a s : Int) (p r c : List UInt8) (hd : dR k a s p r c = true) (ha : 0 ≤ a ∧ a < 18446744073709551616) (hs : 0 ≤ s ∧ s < 4294967296) : GoodP Tryz.prog gl0 28 [.agg [.int .i64 k, .str p, .int .u64 a, .int .u32 s, .str r, .str c]] (rowS eB 0 1 std fun _ => ltB k a s p r c) := by
  refine fn_sound' (T := seatT) (G := gT6) (X := noX) seatT_ok gT6_ok noX_ok noI_ok mixed Tryz.func28 (.none) (fun A => [.agg [.int .i64 k, .str p, .int .u64 a, .int .u32 s, .str r, .str c]]) (fun A => rowS eB 0 1 A fun _ => ltB k a s p r c) fun A hA => ?_
  cbv
  repeat' (first | with_reducible exact True.intro | with_reducible exact dr_ok hA (by kernel_rfl) | with_reducible refine And.intro ?_ ?_ | (intro hc; cbv))
  all_goals (have hR := dIs_R hd ha.1 hs.1)
  all_goals (have hv := fun i => Nat.le_trans (val_len hR i) (show 999 ≤ 1000000 by decide))
  all_goals (have hl : (dIs k a s p r c).length ≤ 5 := by rw [dIs_len]; exact (fOf_len k).2)
  all_goals (have hB := dB_len hd ha.1 hs.1)
  all_goals (have ht := (lt_yes hd).1)
  all_goals (subst hA; simp [-List.getD_eq_getElem?_getD, std_add, std_sub, std_mul, std_quo, std_rem, std_band, std_bor, std_bxor, std_shl, std_shr, std_eq, std_ne, std_lt, std_le, std_conv, std_not, std_beq, std_bne, std_ite, std_want, std_and2, std_sadd, std_seq, std_sne, std_slt, std_sle, std_sgt, std_sge, std_slen, std_sget, std_scut, std_ofNat, std_toNat, std_nsub, std_nadd, std_lenOf, std_nz, std_nneg, std_inb, std_upto, std_slt63, std_grow, std_imp, std_impN, std_tr, std_tb, std_ti, std_ts, std_tn, std_tp, std_nmin, std_makes, std_room, std_zeros, std_nilq, std_notq, std_eqi, std_eqn, std_eqb, std_eqs, std_eqv, std_cat, std_lst, std_rset, std_rcopy, std_shift, std_eqr, std_strOf, std_bytesOf, std_isB, std_zOf, zOf_int, std_isI, isI_int, std_getL, std_nmul, std_sOf, sOf_str, std_isS, isS_str, strOf_lit, lstOf_lit inj_eB, lstOf_lit inj_eZ, lstOf_lit inj_eBs, lstOf_lit inj_eS, isRow_lit, isB_lit, isRow_nil, lstOf_nil inj_eB, lstOf_nil inj_eZ, lstOf_nil inj_eBs, lstOf_nil inj_eS, lstOf_lit inj_eI, ht])
  all_goals first
    | done
    | exact ⟨ha, hs, hd⟩
    | exact ⟨hR, by omega, hv⟩
    | omega
    | trace_state
theorem good_rOpen (B : List UInt8) (hB : B.length ≤ 10000) : GoodP Tryz.prog gl0 30 [rowS eB 0 1 std fun _ => B] (.tup [.agg [.int .i64 (std.ti fun _ => (opD B).k), .str (std.ts fun _ => (opD B).pan), .int .u64 (std.ti fun _ => (opD B).am), .int .u32 (std.ti fun _ => (opD B).s), .str (std.ts fun _ => (opD B).r), .str (std.ts fun _ => (opD B).code)], .int .i64 (std.ti fun _ => opE B)]) := by
  refine fn_sound' (T := seatT) (G := gT6) (X := noX) seatT_ok gT6_ok noX_ok noI_ok mixed Tryz.func30 (.one) (fun A => [rowS eB 0 1 A fun _ => B]) (fun A => .tup [.agg [.int .i64 (A.ti fun _ => (opD B).k), .str (A.ts fun _ => (opD B).pan), .int .u64 (A.ti fun _ => (opD B).am), .int .u32 (A.ti fun _ => (opD B).s), .str (A.ts fun _ => (opD B).r), .str (A.ts fun _ => (opD B).code)], .int .i64 (A.ti fun _ => opE B)]) fun A hA => ?_
  cbv
  repeat' (first | with_reducible exact True.intro | with_reducible exact dr_ok hA (by kernel_rfl) | with_reducible refine And.intro ?_ ?_ | (intro hc; cbv))
  all_goals (have hw2 : IntKind.i64.wrap ((B.length : Int) - 2) = (B.length : Int) - 2 := w64 (by omega))
  all_goals (subst hA; simp [-List.getD_eq_getElem?_getD, std_add, std_sub, std_mul, std_quo, std_rem, std_band, std_bor, std_bxor, std_shl, std_shr, std_eq, std_ne, std_lt, std_le, std_conv, std_not, std_beq, std_bne, std_ite, std_want, std_and2, std_sadd, std_seq, std_sne, std_slt, std_sle, std_sgt, std_sge, std_slen, std_sget, std_scut, std_ofNat, std_toNat, std_nsub, std_nadd, std_lenOf, std_nz, std_nneg, std_inb, std_upto, std_slt63, std_grow, std_imp, std_impN, std_tr, std_tb, std_ti, std_ts, std_tn, std_tp, std_nmin, std_makes, std_room, std_zeros, std_nilq, std_notq, std_eqi, std_eqn, std_eqb, std_eqs, std_eqv, std_cat, std_lst, std_rset, std_rcopy, std_shift, std_eqr, std_strOf, std_bytesOf, std_isB, std_zOf, zOf_int, std_isI, isI_int, std_getL, std_nmul, std_sOf, sOf_str, std_isS, isS_str, strOf_lit, lstOf_lit inj_eB, lstOf_lit inj_eZ, lstOf_lit inj_eBs, lstOf_lit inj_eS, isRow_lit, isB_lit, isRow_nil, lstOf_nil inj_eB, lstOf_nil inj_eZ, lstOf_nil inj_eBs, lstOf_nil inj_eS, lstOf_lit inj_eI, lst_drop, row_drop, wr_len, hw2] at *)
  all_goals first
    | omega
    | exact fun h => ⟨h, by omega⟩
    | (cases ho : opOk B
       · have h := op_no ho
         have hn := mt opOk_iff.2 (fun e => Bool.noConfusion (ho.symm.trans e))
         first
           | (rw [h.1]; done)
           | (rw [h.2]; done)
           | (rw [h.2]; rfl)
           | (exfalso
              by_cases hb2 : 2 ≤ B.length
              · have hf := fLen_at hb2
                omega
              · omega)
           | trace_state
       · have hi := opOk_iff.1 ho
         have hM := opM_eq ho
         have e1 : opE B = if mRe (opM B) = 0 then dE (mRT (opM B)) (mRL (opM B)) else mRe (opM B) := by unfold opE; rw [if_pos ho]
         have eD : opD B = ⟨xK (mRT (opM B)) (mRL (opM B)), xP (mRT (opM B)) (mRL (opM B)), xA (mRT (opM B)) (mRL (opM B)), xS (mRT (opM B)) (mRL (opM B)), xR (mRT (opM B)) (mRL (opM B)), xC (mRT (opM B)) (mRL (opM B))⟩ := by
           unfold opD opI opS; simp only [if_pos ho]
         rw [hM] at e1 eD
         first
           | (have h0 : mRe (List.drop 2 B) = 0 := by assumption
              first
                | exact ⟨Nat.le_trans (mRL_len _) (by decide), fun i => Nat.le_trans (val_len (mR_good h0).1 i) (by decide)⟩
                | (rw [eD]; done)
                | (rw [e1, if_pos h0]; done))
           | (have h0 : ¬mRe (List.drop 2 B) = 0 := by assumption
              have hb := op_bad (B := B) (by rw [e1, if_neg h0]; exact h0)
              first
                | (rw [hb]; done)
                | (rw [hb]; rfl)
                | (rw [e1, if_neg h0]; done))
           | (exfalso
              have hf := fLen_at (B := B) (by omega)
              omega)
           | trace_state)
    | trace_state
end Go.Vd

set_option linter.unusedVariables false
set_option linter.unusedSimpArgs false
set_option maxRecDepth 100000
set_option maxHeartbeats 8000000
namespace Go.Vd
open Go.Proofs
noncomputable def c_rPutQ6 : Ct := fun A args => match args with
  | [.agg [.int .i64 r, .slc n 1 f], .slc m 1 g] => some (some (A.tp fun _ => (isRow eBs [] 1 n f ∧ isRow eBs [] 1 m g) ∧ n ≤ 1000000 ∧ m ≤ 1000000), .tup [sQ A r fun _ => qPutL r (lstOf eBs [] 1 n f) (lstOf eBs [] 1 m g), .int .i64 (A.ti fun _ => qPutE r (lstOf eBs [] 1 n f).length (lstOf eBs [] 1 m g).length)])
  | _ => none
noncomputable def c_rLetter6 : Ct := fun A args => match args with
  | [.agg [.int .i64 k, .str p, .int .u64 a, .int .u32 s, .str r, .str c]] => some (some (A.tp fun _ => dR k a s p r c = true ∧ (0 ≤ a ∧ a < 18446744073709551616) ∧ (0 ≤ s ∧ s < 4294967296)), rowS eB 0 1 A fun _ => ltB k a s p r c)
  | _ => none
noncomputable def gT7 : Ar → Pu := addC 73 c_rPutQ6 (addC 28 c_rLetter6 (gT6))
theorem gT7_ok : PuOk Tryz.prog gl0 (gT7 std) := by
  refine addC_ok (addC_ok (gT6_ok) ⟨_, Tryz.func28, rfl, by decide⟩ ?_) ⟨_, Tryz.func73, rfl, by decide⟩ ?_
  · intro args p r h hp
    unfold c_rLetter6 at h
    split at h <;> cases h
    exact good_rLetter _ _ _ _ _ _ hp.1 hp.2.1 hp.2.2
  · intro args p r h hp
    unfold c_rPutQ6 at h
    split at h <;> cases h
    exact good_sv (good_rPutQ _ _ _ (by rw [lstOf_length hp.1.1]; exact hp.2.1) (by rw [lstOf_length hp.1.2]; exact hp.2.2)) ⟨⟨_, rfl, rfl, hp.1.1.sv, trivial⟩, hp.1.2.sv, trivial⟩
theorem lstOf_D7 (L : List Dl) : lstOf eD D0 6 L.length (rowF eD { k := 0, pan := [], am := 0, s := 0, r := [], code := [] } std fun _ => L) = L := lstOf_lit inj_eD L
theorem isRow_D7 (L : List Dl) : isRow eD D0 6 L.length (rowF eD { k := 0, pan := [], am := 0, s := 0, r := [], code := [] } std fun _ => L) := isRow_lit L
theorem good_rPush (r : Int) (Q : List (List UInt8)) (L : List Dl) (hQ : Q.length ≤ 1000000) (hL : L.length ≤ 1000000) (hw : ∀ i, dlWf (L.getD i D0)) : GoodP Tryz.prog gl0 32 [sQ std r fun _ => Q, rowS eD D0 6 std fun _ => L] (.tup [sQ std r fun _ => tpL r Q L, .int .i64 (std.ti fun _ => tpE r Q.length L)]) := by
  refine fn_sound' (T := seatT) (G := gT7) (X := noX) seatT_ok gT7_ok noX_ok noI_ok mixed Tryz.func32 (.none) (fun A => [sQ A r fun _ => Q, rowS eD D0 6 A fun _ => L]) (fun A => .tup [sQ A r fun _ => tpL r Q L, .int .i64 (A.ti fun _ => tpE r Q.length L)]) fun A hA => ?_
  cbv
  repeat' (first | with_reducible exact True.intro | with_reducible exact dr_ok hA (by kernel_rfl) | with_reducible refine And.intro ?_ ?_ | (intro hc; cbv))
  refine ⟨⟨{p : Nat × List (List UInt8) // p.1 ≤ L.length ∧ (∀ j, j < p.1 → ltOk (L.getD j D0) = true) ∧ p.2 = (L.take p.1).map ltD}, fun b p => [(6, .own b), (7, .int .i64 (p.1.1 : Nat))], fun b p => [(b, .row 22 1 (A.tn fun _ => p.1.2.length) (rowF eBs [] A fun _ => p.1.2))], fun p => L.length - p.1.1, true⟩, ⟨⟨(0, []), by omega, by simp, by simp⟩, ?_⟩, ?_⟩
  · cbv
    subst hA
    simp [-List.getD_eq_getElem?_getD, sS, strOf_lit, lstOf_lit inj_eB, lstOf_lit inj_eZ, lstOf_lit inj_eBs, lstOf_lit inj_eS, isRow_lit, isB_lit, isRow_nil, lstOf_nil inj_eB, lstOf_nil inj_eZ, lstOf_nil inj_eBs, lstOf_nil inj_eS]
  · rintro ⟨⟨i, M⟩, hx⟩
    have hi := hx.1
    have h0 := hx.2.1
    have hM := hx.2.2
    simp only at hi h0 hM
    have hMl : M.length = i := by rw [hM]; exact map_take_len hi
    have hME : i = L.length → M = L.map ltD := fun e => by rw [hM, e, List.take_length]
    rcases Nat.lt_or_ge i L.length with hlt | hge
    · obtain ⟨d, hd⟩ : ∃ d, d = L.getD i D0 := ⟨_, rfl⟩
      have hg : L.getD i { k := 0, pan := [], am := 0, s := 0, r := [], code := [] } = d := hd.symm
      have hwi := hw i
      rw [← hd] at hwi
      have hsnoc : ltOk d = true → (L.take i).map ltD ++ [ltD d] = (L.take (i + 1)).map ltD := fun _ => by rw [hd]; exact map_snoc hlt
      have htn : ltOk d = false → tpL r Q L = Q ∧ tpE r Q.length L = 1 := fun h => tp_no hlt (by rw [← hd]; exact h)
      have h0' : ltOk d = true → ∀ j, j < i + 1 → ltOk (L.getD j D0) = true := fun hk j hj => by
        rcases Nat.lt_or_ge j i with h | h
        · exact h0 j h
        · obtain rfl : j = i := by omega
          rw [← hd]; exact hk
      cbv
      repeat' (first | with_reducible exact True.intro | with_reducible exact dr_ok hA (by kernel_rfl) | with_reducible refine And.intro ?_ ?_ | (intro hc; cbv))
      all_goals first
        | (fail_if_success (refine Exists.intro ?_ ?_)
           subst hA
           try dsimp only
           simp [-List.getD_eq_getElem?_getD, sS, strOf_lit, lstOf_lit inj_eB, lstOf_lit inj_eZ, lstOf_lit inj_eBs, lstOf_lit inj_eS, isRow_lit, isB_lit, isRow_nil, lstOf_nil inj_eB, lstOf_nil inj_eZ, lstOf_nil inj_eBs, lstOf_nil inj_eS, lstOf_D7, isRow_D7, hg]
           first
             | done
             | omega
             | with_reducible exact hlt
             | exact ⟨hwi.2.2.1, hwi.2.2.2.1, hwi.2.2.2.2⟩
             | ((with_reducible refine And.intro ?_ ?_) <;> omega)
             | (simp [-List.getD_eq_getElem?_getD, sS, strOf_lit, lstOf_lit inj_eB, lstOf_lit inj_eZ, lstOf_lit inj_eBs, lstOf_lit inj_eS, isRow_lit, isB_lit, isRow_nil, lstOf_nil inj_eB, lstOf_nil inj_eZ, lstOf_nil inj_eBs, lstOf_nil inj_eS, lstOf_D7, isRow_D7, hg] at hc
                first
                  | exact ⟨hc, hwi.1, hwi.2.1⟩
                  | (rw [(htn hc).1]; done)
                  | (rw [(htn hc).1]; exact (Reps.lit _).eqr)
                  | (rw [(htn hc).2]; done)
                  | omega
                  | (exfalso; omega)
                  | trace_state)
             | trace_state)
        | (have hk : ltOk d = true := by (subst hA; simp [-List.getD_eq_getElem?_getD, sS, strOf_lit, lstOf_lit inj_eB, lstOf_lit inj_eZ, lstOf_lit inj_eBs, lstOf_lit inj_eS, isRow_lit, isB_lit, isRow_nil, lstOf_nil inj_eB, lstOf_nil inj_eZ, lstOf_nil inj_eBs, lstOf_nil inj_eS, lstOf_D7, isRow_D7, hg] at hc; exact hc)
           obtain ⟨i', hi'⟩ : ∃ i', i' = i + 1 := ⟨_, rfl⟩
           obtain ⟨M', hM'⟩ : ∃ M', M' = M ++ [ltD d] := ⟨_, rfl⟩
           have c1 : i' ≤ L.length := by omega
           have c2 : ∀ j, j < i' → ltOk (L.getD j D0) = true := by rw [hi']; exact h0' hk
           have c3 : M' = (L.take i').map ltD := by rw [hM', hM, hi']; exact hsnoc hk
           refine ⟨⟨(i', M'), c1, c2, c3⟩, ?_, show L.length - i' < L.length - i by omega⟩
           cbv
           subst hA
           simp [-List.getD_eq_getElem?_getD, sS, strOf_lit, lstOf_lit inj_eB, lstOf_lit inj_eZ, lstOf_lit inj_eBs, lstOf_lit inj_eS, isRow_lit, isB_lit, isRow_nil, lstOf_nil inj_eB, lstOf_nil inj_eZ, lstOf_nil inj_eBs, lstOf_nil inj_eS, hg]
           refine ⟨?_, ?_, ?_⟩
           all_goals first | exact w_succ hi' (by omega) | (rw [hM']; simp; done) | exact snoc_row rfl (cell_eBs (Reps.lit _)) hM'.symm (by rw [hM']; simp) | trace_state)
        | trace_state
    · have hie : i = L.length := by omega
      have hM2 := hME hie
      have ht := tp_yes (r := r) (Q := Q) (n := Q.length) (fun j hj => h0 j (by omega))
      cbv
      repeat' (first | with_reducible exact True.intro | with_reducible exact dr_ok hA (by kernel_rfl) | with_reducible refine And.intro ?_ ?_ | (intro hc; cbv))
      all_goals first
        | (fail_if_success (refine Exists.intro ?_ ?_)
           subst hA
           try dsimp only
           simp [-List.getD_eq_getElem?_getD, sS, strOf_lit, lstOf_lit inj_eB, lstOf_lit inj_eZ, lstOf_lit inj_eBs, lstOf_lit inj_eS, isRow_lit, isB_lit, isRow_nil, lstOf_nil inj_eB, lstOf_nil inj_eZ, lstOf_nil inj_eBs, lstOf_nil inj_eS, lstOf_D7, isRow_D7]
           first
             | done
             | omega
             | ((with_reducible refine And.intro ?_ ?_) <;> omega)
             | (rw [ht.1, hM2]; done)
             | (rw [ht.1, hM2]; exact (Reps.lit _).eqr)
             | (rw [ht.2, hMl, hie]; done)
             | (exfalso; simp [-List.getD_eq_getElem?_getD, sS, strOf_lit, lstOf_lit inj_eB, lstOf_lit inj_eZ, lstOf_lit inj_eBs, lstOf_lit inj_eS, isRow_lit, isB_lit, isRow_nil, lstOf_nil inj_eB, lstOf_nil inj_eZ, lstOf_nil inj_eBs, lstOf_nil inj_eS] at hc; omega)
             | (exfalso; rename_i q; simp [-List.getD_eq_getElem?_getD, sS, strOf_lit, lstOf_lit inj_eB, lstOf_lit inj_eZ, lstOf_lit inj_eBs, lstOf_lit inj_eS, isRow_lit, isB_lit, isRow_nil, lstOf_nil inj_eB, lstOf_nil inj_eZ, lstOf_nil inj_eBs, lstOf_nil inj_eS] at q; omega)
             | trace_state)
        | (exfalso; subst hA; simp [-List.getD_eq_getElem?_getD, sS, strOf_lit, lstOf_lit inj_eB, lstOf_lit inj_eZ, lstOf_lit inj_eBs, lstOf_lit inj_eS, isRow_lit, isB_lit, isRow_nil, lstOf_nil inj_eB, lstOf_nil inj_eZ, lstOf_nil inj_eBs, lstOf_nil inj_eS] at hc; omega)
        | (exfalso; subst hA; rename_i q; simp [-List.getD_eq_getElem?_getD, sS, strOf_lit, lstOf_lit inj_eB, lstOf_lit inj_eZ, lstOf_lit inj_eBs, lstOf_lit inj_eS, isRow_lit, isB_lit, isRow_nil, lstOf_nil inj_eB, lstOf_nil inj_eZ, lstOf_nil inj_eBs, lstOf_nil inj_eS] at q; omega)
        | trace_state
end Go.Vd

set_option linter.unusedVariables false
set_option maxRecDepth 100000
namespace Go.Vd
open Go.Proofs
theorem aw_R : dR 7 0 1 [] [82, 82, 78, 48, 48, 48, 48, 48, 48, 48, 48, 49] [48, 48] = true := by decide +kernel
theorem ceqB {z : Int} {x : UInt8} (h : z = (x.toNat : Int)) : ∀ j, j < 1 → Ceq (getAt [SV.int .u8 z] j) (getAt (eB std fun _ => x) j) := fun j hj => by
  obtain rfl : j = 0 := by omega
  subst h
  exact .refl _
end Go.Vd

