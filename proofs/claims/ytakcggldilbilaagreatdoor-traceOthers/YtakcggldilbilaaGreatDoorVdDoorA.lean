/- Traces: the law. -/
import Derived.Test.YtakcggldilbilaaGreatDoorVdU5
import Derived.Test.YtakcggldilbilaaGreatDoorVdRow2
import Derived.Lib.SmallJoins
import Derived.Test.YtakcggldilbilaaGreatDoorRows
import Derived.Test.YtakcggldilbilaaGreatDoorCards
import Derived.Test.YtakcggldilbilaaGreatDoorTie
import Derived.Test.YtakcggldilbilaaGreatDoorVdH1
import Derived.ProofKit
import Derived.LaidMore
import Derived.OpenShut
import Derived.Stop.Joined
import Derived.SevenTiedAt
import Derived.Lib.LaidTab
set_option linter.unusedVariables false
set_option linter.unusedSimpArgs false
set_option maxRecDepth 100000
set_option maxHeartbeats 8000000
namespace Go.Vd
open Go.Proofs
noncomputable def c_trAwake : Ct := fun A args => match args with
  | [] => some (none, .bool true)
  | _ => none
noncomputable def gU6 : Ar → Pu := addC 35 c_trAwake (gU5)
theorem gU6_ok : PuOk Tryz.prog gl0 (gU6 std) := by
  refine addC_ok (gU5_ok) ⟨_, Tryz.func35, rfl, by decide⟩ ?_
  · intro args p r h hp
    unfold c_trAwake at h
    split at h <;> cases h
    exact good_trAwake
theorem trD_app (K M : List (List UInt8)) : trD (K ++ M) = trD K ++ trD M := by simp [trD, List.filter_append]
theorem trL_app (s : Int) (r : List UInt8) (Ls : List (List UInt8)) (b : List UInt8) : trL s r (Ls ++ [b]) = trL s r Ls ++ trL s r [b] := by
  simp [trL, trD, List.filter_append]
theorem trL_cons (s : Int) (r : List UInt8) (Ls : List (List UInt8)) (b : List UInt8) : trL s r (b :: Ls) = trL s r [b] ++ trL s r Ls := by
  have h := trD_app [b] Ls
  unfold trL
  rw [show b :: Ls = [b] ++ Ls from rfl, h, List.filter_append]
theorem trL_one {s : Int} {r b : List UInt8} {d : Dl} (h : opE b = 0) (hd : opD b = d) : trL s r [b] = if kEq s r d = true then [d] else [] := by
  unfold trL
  rw [trD_cons h, trD_nil, hd, List.filter_cons]
  rfl
theorem cnt_app (L M : List Dl) (k : Int) : cnt (L ++ M) k = cnt L k + cnt M k := by simp [cnt, List.filter_append]
theorem cnt_one (d : Dl) (k : Int) : cnt [d] k = if d.k = k then 1 else 0 := by
  unfold cnt
  by_cases e : d.k = k <;> simp [List.filter_cons, e]
theorem cnt_nil (k : Int) : cnt [] k = 0 := rfl
theorem may_more {L : List Dl} {f a g t : Int} (h : mayS L f a g t = true) : mayS L f a g (t + 1) = true := by
  unfold mayS at h ⊢
  simp only [Bool.and_eq_true, Bool.not_eq_true', decide_eq_false_iff_not] at h ⊢
  refine ⟨⟨h.1.1, h.1.2.1, ?_⟩, h.2⟩
  have := h.1.2.2
  omega
theorem catS_0 (f g : Nat → Nat → SV) : catS 0 f g = g := by funext i j; simp [catS]
theorem tu_m (T : List (List UInt8)) (b : List UInt8) : Reps eBs [] 1 (T.length + 1) (catS T.length (rowF eBs [] std fun _ => T) (lstS [[SV.slc b.length 1 (rowF eB 0 std fun _ => b)]])) (T ++ [b]) :=
  (Reps.lit T).cat (Reps.one (cell_eBs (Reps.lit b)))
theorem tu_i (T : List (List UInt8)) (b : List UInt8) : Reps eBs [] 1 (1 + T.length) (catS 1 (lstS [[SV.slc b.length 1 (rowF eB 0 std fun _ => b)]]) (rowF eBs [] std fun _ => T)) (b :: T) :=
  (Reps.one (cell_eBs (Reps.lit b))).cat (Reps.lit T)
theorem tu_big {T : List (List UInt8)} (h : looks T = true) : T.length ≤ 300 ∧ ∀ i, (T.getD i []).length ≤ 10000 := by
  have h2 := looks_iff.1 h
  exact ⟨h2.1, tw_ok fun b hb => Nat.le_trans (h2.2 b hb) (by decide)⟩
theorem tu_bigm {T : List (List UInt8)} {b : List UInt8} (h : looks T = true) (hb : b.length ≤ 202) : (T ++ [b]).length ≤ 1000000 ∧ ∀ i, ((T ++ [b]).getD i []).length ≤ 10000 := by
  have h2 := looks_iff.1 h
  refine ⟨by simp; omega, tw_ok fun c hc => ?_⟩
  rcases List.mem_append.1 hc with hc | hc
  · exact Nat.le_trans (h2.2 c hc) (by decide)
  · rw [List.mem_singleton.1 hc]; omega
theorem tu_bigi {T : List (List UInt8)} {b : List UInt8} (h : looks T = true) (hb : b.length ≤ 202) : (b :: T).length ≤ 1000000 ∧ ∀ i, ((b :: T).getD i []).length ≤ 10000 := by
  have h2 := looks_iff.1 h
  refine ⟨by simp; omega, tw_ok fun c hc => ?_⟩
  rcases List.mem_cons.1 hc with hc | hc
  · rw [hc]; omega
  · exact Nat.le_trans (h2.2 c hc) (by decide)
theorem trL_le (s : Int) (r : List UInt8) (T : List (List UInt8)) : (trL s r T).length ≤ T.length := by
  unfold trL
  exact Nat.le_trans (List.length_filter_le _ _) (trD_len T)
theorem tu_ok {Ta Ti : List (List UInt8)} {r dp dr dc : List UInt8} (h : (bif bif bif !looks Ta then true else !looks Ti then true else !decide (r.length ≤ 300) then true else !decide (dp.length ≤ 300 ∧ dr.length ≤ 300 ∧ dc.length ≤ 300)) = false) : looks Ta = true ∧ looks Ti = true ∧ r.length ≤ 300 ∧ dp.length ≤ 300 ∧ dr.length ≤ 300 ∧ dc.length ≤ 300 := by
  cases h1 : looks Ta <;> cases h2 : looks Ti <;> simp [h1, h2] at h
  exact ⟨rfl, rfl, h.1, h.2⟩
theorem tu_E {k a s : Int} {p r c : List UInt8} (h : (ltE k a s p r c != 0) = false) : ltE k a s p r c = 0 := by simpa using h
theorem tu_kn {s ds : Int} {r dr : List UInt8} (dk da : Int) (dp dc : List UInt8) (h : (!(ds == s && (dr == r && true))) = true) : kEq s r ⟨dk, dp, da, ds, dr, dc⟩ = false := by
  simp [kEq] at h ⊢
  intro e
  rcases h with h | h
  · exact absurd e h
  · exact h
theorem tu_ky {s ds : Int} {r dr : List UInt8} (dk da : Int) (dp dc : List UInt8) (h : (!(ds == s && (dr == r && true))) = false) : kEq s r ⟨dk, dp, da, ds, dr, dc⟩ = true := by
  simp [kEq] at h ⊢
  exact h
theorem tu_A {s : Int} {r b : List UInt8} {T : List (List UInt8)} {d : Dl} (h : opE b = 0) (hd : opD b = d) : trL s r (T ++ [b]) = trL s r T ++ (if kEq s r d = true then [d] else []) ∧ trL s r (b :: T) = (if kEq s r d = true then [d] else []) ++ trL s r T := by
  constructor
  · rw [trL_app, trL_one h hd]
  · rw [trL_cons, trL_one h hd]
theorem fA2_y {d : Dl} (h : d.k = 2) : [d].filter fA2 = [d] := by simp [fA2, h]
theorem fA2_n {d : Dl} (h : ¬d.k = 2) : [d].filter fA2 = [] := by simp [fA2, h]
theorem fA2_le (L : List Dl) : (L.filter fA2).length ≤ L.length := List.length_filter_le _ _
theorem getD_end (L : List Dl) (d e : Dl) : (L ++ [d]).getD L.length e = d := by simp
theorem one_step' (c : Nat) (dk j : Int) : ((((if dk = j then 1 else 0) + c : Nat) : Int) == (c : Int) + 1) = (dk == j) := by
  by_cases h : dk = j
  · subst h; simp; omega
  · have : (dk == j) = false := by simpa using h
    rw [if_neg h, this, beq_eq_false_iff_ne]; omega
theorem one_step2 (c : Nat) (dk j : Int) : (((c + (if dk = j then 1 else 0) : Nat) : Int) == (c : Int) + 1) = (dk == j) := by
  by_cases h : dk = j
  · subst h; simp
  · have : (dk == j) = false := by simpa using h
    rw [if_neg h, this, beq_eq_false_iff_ne]; omega
theorem good_TraceOthers (Ta Ti : List (List UInt8)) (s : Int) (r : List UInt8) (dk da ds : Int) (dp dr dc : List UInt8) (t : Int) (hda : 0 ≤ da ∧ da < 18446744073709551616) (hds : 0 ≤ ds ∧ ds < 4294967296) (ht : 0 ≤ t ∧ t < 256) : GoodP Tryz.prog gl0 8 [rowS eBs [] 1 std fun _ => Ta, rowS eBs [] 1 std fun _ => Ti, .agg [.int .u32 s, .str r], .agg [.int .i64 dk, .str dp, .int .u64 da, .int .u32 ds, .str dr, .str dc], .int .u8 t] (.bool true) := by
  refine fn_sound' (T := seatT.bsx) (G := gU6) (X := bsX) (tys_bsx seatT_ok) gU6_ok bsX_ok noI_ok mixed Tryz.func8 (.one) (fun A => [rowS eBs [] 1 A fun _ => Ta, rowS eBs [] 1 A fun _ => Ti, .agg [.int .u32 s, .str r], .agg [.int .i64 dk, .str dp, .int .u64 da, .int .u32 ds, .str dr, .str dc], .int .u8 t]) (fun A => .bool true) fun A hA => ?_
  cbv
  repeat' (first | with_reducible exact True.intro | with_reducible exact dr_ok hA (by kernel_rfl) | with_reducible refine And.intro ?_ ?_ | (intro hc; cbv))
  all_goals (subst hA; simp only [std_add, std_sub, std_mul, std_quo, std_rem, std_band, std_bor, std_bxor, std_shl, std_shr, std_eq, std_ne, std_lt, std_le, std_conv, std_not, std_beq, std_bne, std_ite, std_want, std_and2, std_sadd, std_seq, std_sne, std_slt, std_sle, std_sgt, std_sge, std_slen, std_sget, std_scut, std_ofNat, std_toNat, std_nsub, std_nadd, std_lenOf, std_nz, std_nneg, std_inb, std_upto, std_slt63, std_grow, std_imp, std_impN, std_tr, std_tb, std_ti, std_ts, std_tn, std_tp, std_nmin, std_makes, std_room, std_zeros, std_nilq, std_notq, std_eqi, std_eqn, std_eqb, std_eqs, std_eqv, std_cat, std_lst, std_rset, std_rcopy, std_shift, std_eqr, std_strOf, std_bytesOf, std_isB, std_zOf, zOf_int, std_isI, isI_int, std_getL, std_nmul, std_sOf, sOf_str, std_isS, isS_str, std_fadd, std_fsub, std_fav, std_fsv, std_feq, std_fne, std_flt, std_fle, std_fgt, std_fge, std_fOf, std_fTo, std_fTv, strOf_lit, lstOf_lit inj_eB, lstOf_lit inj_eZ, lstOf_lit inj_eBs, lstOf_lit inj_eS, Nat.zero_add, catS_0, lstOf_eq inj_eBs (tu_m _ _), lstOf_eq inj_eBs (tu_i _ _), lstOf_U, isRow_U] at *)
  all_goals first
    | done
    | (exfalso; revert hc; decide)
    | exact isRow_lit _
    | (intro h; exact h)
    | (intro h; exact ⟨h, isRow_lit _⟩)
    | (intro h; simp only [Bool.true_and, Bool.beq_eq_decide_eq, decide_eq_true_eq]; exact h)
    | skip
  all_goals first
    | done
    | (have hf := tu_ok (by assumption)
       have b1 := tu_big hf.1
       have b2 := tu_big hf.2.1
       first
         | exact ⟨⟨isRow_lit _, isRow_lit _⟩, by omega, by omega, b1.2, b2.2⟩
         | exact ⟨hda, hds, by omega, by omega, by omega⟩
         | (refine ⟨by omega, by omega⟩)
         | (have hE := tu_E (by assumption)
            have hl := lt_len dk da ds dp dr dc hda.1 hds.1
            have c1 := tu_bigm (b := ltB dk da ds dp dr dc) hf.1 hl
            have c2 := tu_bigi (b := ltB dk da ds dp dr dc) hf.2.1 hl
            first
              | exact ⟨⟨⟨_, tu_m _ _⟩, isRow_lit _⟩, by omega, by omega, c1.2, b2.2⟩
              | exact ⟨⟨isRow_lit _, ⟨_, tu_i _ _⟩⟩, by omega, by omega, b1.2, c2.2⟩
              | (have hb := op_back (lt_R hE) hda.1 hds.1
                 have hA2 := (tu_A (s := s) (r := r) (T := Ta) hb.1 hb.2).1
                 have hI2 := (tu_A (s := s) (r := r) (T := Ti) hb.1 hb.2).2
                 have q1 := trL_le s r Ta
                 have q2 := trL_le s r Ti
                 have q3 := fA2_le (trL s r Ta)
                 first
                   | exact ⟨trivial, by omega⟩
                   | exact ⟨⟨trivial, trivial⟩, by omega⟩
                   | (intro h; exact ⟨⟨h, h⟩, trivial, by omega⟩)
                   | (exfalso
                      rename_i q
                      have e1 : IntKind.i64.wrap t = t := w64 (by omega)
                      have e2 : IntKind.i64.wrap (t + 1) = t + 1 := w64 (by omega)
                      rw [e1, e2] at hc
                      cases hm : mayS (List.filter fA2 (trL s r Ta)) ((cnt (trL s r Ti) 1 : Nat) : Int) ((cnt (trL s r Ti) 5 : Nat) : Int) ((cnt (trL s r Ti) 6 : Nat) : Int) t
                      · rw [hm] at hc; cases hc
                      · rw [hm, may_more hm] at hc; cases hc)
                   | (have hk := tu_kn dk da dp dc (by assumption)
                      rw [hk] at hA2 hI2
                      simp only [Bool.false_eq_true, if_false, List.append_nil, List.nil_append] at hA2 hI2
                      simp only [hA2, hI2]
                      simp
                      try omega)
                   | (have hk := tu_ky dk da dp dc (by assumption)
                      rw [hk] at hA2 hI2
                      simp only [if_true] at hA2 hI2
                      have k4 := cnt_le (trL s r Ta) 4
                      have k1 := cnt_le (trL s r Ti) 1
                      have k5 := cnt_le (trL s r Ti) 5
                      have k6 := cnt_le (trL s r Ti) 6
                      have w1 : IntKind.i64.wrap (((List.filter fA2 (trL s r Ta)).length : Int) + 1) = ((List.filter fA2 (trL s r Ta)).length : Int) + 1 := w64 (by omega)
                      have w4 : IntKind.i64.wrap (((cnt (trL s r Ta) 4 : Nat) : Int) + 1) = ((cnt (trL s r Ta) 4 : Nat) : Int) + 1 := w64 (by omega)
                      have v1 : IntKind.i64.wrap (((cnt (trL s r Ti) 1 : Nat) : Int) + 1) = ((cnt (trL s r Ti) 1 : Nat) : Int) + 1 := w64 (by omega)
                      have v5 : IntKind.i64.wrap (((cnt (trL s r Ti) 5 : Nat) : Int) + 1) = ((cnt (trL s r Ti) 5 : Nat) : Int) + 1 := w64 (by omega)
                      have v6 : IntKind.i64.wrap (((cnt (trL s r Ti) 6 : Nat) : Int) + 1) = ((cnt (trL s r Ti) 6 : Nat) : Int) + 1 := w64 (by omega)
                      simp only [hA2, hI2, List.filter_append, w1, w4, v1, v5, v6, cnt_app, cnt_one]
                      first
                        | (have hd : (dk == 2) = true := by assumption
                           have h2 : dk = 2 := by simpa using hd
                           first
                             | (simp [-List.getD_eq_getElem?_getD, fA2_y, fA2_n, getD_end, h2]; done)
                             | (simp [-List.getD_eq_getElem?_getD, fA2_y, fA2_n, getD_end, h2]; omega))
                        | (have hd : (dk == 2) = false := by assumption
                           have h2 : ¬dk = 2 := by simpa using hd
                           first
                             | (simp [-List.getD_eq_getElem?_getD, fA2_y, fA2_n, getD_end, h2]; done)
                             | (simp [-List.getD_eq_getElem?_getD, fA2_y, fA2_n, getD_end, h2]; omega)
                             | (simp only [one_step', one_step2, fA2_n (d := ⟨dk, dp, da, ds, dr, dc⟩) h2, List.append_nil]; simp)))
                   | trace_state)))
    | trace_state
end Go.Vd

set_option linter.unusedVariables false
namespace Go.Vd
open Go.Proofs Go.ChangeShapes Go.WideShapes Go.ChangeAt Go.RowKit Go.Joins Go.Deep Go.WideElems
theorem u16_wf {z : Int} (h : (Lit.int .u16 z).wf = true) : 0 ≤ z ∧ z < 65536 := by
  simp [Lit.wf] at h
  have e1 : IntKind.u16.min = 0 := by decide
  have e2 : IntKind.u16.max = 65535 := by decide
  rw [e1, e2] at h
  exact ⟨h.1, by omega⟩
section
variable {H : Type} {enc : TypeId × Value → H} {P : Program}
theorem open_eB_trod {W : World} {t e : TypeId} {v : Value} {fuel : Nat} {x : DataW H × List MemPlace} (ht : P.underlying t = some (.slice e)) (he : P.underlying e = some (.int .u8)) (hc : P.cellsOf e = 1)
    (h : DataW.trod enc P W 0 (fun _ => true) true fuel t [v] = some x) : ∃ L : List UInt8, L.length ≤ maxLen ∧ one v ∧ RelC W (fun _ => False) v (rowS eB 0 1 std fun _ => L) := by
  rcases open_ints ht he hc h with ⟨hcs, hx⟩ | ⟨a, len, cap, zs, hcs, _, hl, hm, hz, hx, hcell, hwz⟩
  · simp only [List.cons.injEq, and_true] at hcs
    subst hcs
    exact ⟨[], Nat.zero_le _, rfl, .slc none 0 0 1 _ (fun _ _ => undef) (Nat.le_refl _) (fun i j hi => absurd hi (by omega)) (fun h => absurd h (by omega)) (fun i j hi => absurd hi (by omega))⟩
  · simp only [List.cons.injEq, and_true] at hcs
    subst hcs
    simp only [if_true] at hz
    have hlen : ((zs.take len).map fun n => UInt8.ofNat n.toNat).length = len := by simp; omega
    refine ⟨(zs.take len).map fun n => UInt8.ofNat n.toNat, by rw [hlen]; omega, rfl, ?_⟩
    show RelC W (fun _ => False) _ (.slc ((zs.take len).map fun n => UInt8.ofNat n.toNat).length 1 (rowF eB 0 std fun _ => (zs.take len).map fun n => UInt8.ofNat n.toNat))
    rw [hlen]
    refine .slc (some a) len cap 1 _ (fun i _ => .int .u8 (zs.getD i 0)) hl (fun i j hi hj => ⟨a, rfl, ?_, rfl, fun h => h⟩) (fun h => ⟨a, rfl, ?_⟩) (fun i j hi hj => ?_)
    · rw [show i * 1 + j = i by omega]
      exact hcell i (by omega)
    · simpa [Addr.add] using World.cell?_spot (hcell 0 (by omega))
    · obtain rfl : j = 0 := by omega
      have hw := u8_wf (hwz (zs.getD i 0) (by rw [List.getD_eq_getElem?_getD, List.getElem?_eq_getElem (by omega)]; simp))
      have : (zs.getD i 0) = (((zs.take len).map fun n => UInt8.ofNat n.toNat).getD i 0).toNat := by
        rw [List.getD_eq_getElem?_getD, List.getD_eq_getElem?_getD, List.getElem?_map, List.getElem?_take_of_lt hi]
        rw [List.getD_eq_getElem?_getD] at hw
        rw [List.getElem?_eq_getElem (by omega)] at hw ⊢
        simp at hw ⊢
        omega
      show RelC W _ _ (SV.int .u8 _)
      rw [this]
      exact .int _ _
theorem array6 {α : Type} {cs : Array α} (h : cs.size = 6) : ∃ c0 c1 c2 c3 c4 c5, cs = #[c0, c1, c2, c3, c4, c5] := by
  obtain ⟨l⟩ := cs
  match l, h with
  | [c0, c1, c2, c3, c4, c5], _ => exact ⟨c0, c1, c2, c3, c4, c5, rfl⟩
theorem open_agg6 {W : World} {b0 base : Nat} {spare : Nat → Bool} {held : Bool} {r : Reach} {t : TypeId} {f0 f1 f2 f3 f4 f5 : Field} {v : Value} {d : DataW H} {p : List MemPlace} (hs : P.underlying t = some (.struct #[f0, f1, f2, f3, f4, f5])) (hone : oneCellFields P #[f0, f1, f2, f3, f4, f5] = true) (hC : P.cellsOf t = 6)
    (hv : Value.okWide P W r b0 t v) (h : DataW.Trod enc P W base spare held t v d p) :
    ∃ (v0 v1 v2 v3 v4 v5 : Value) (y0 y1 y2 y3 y4 y5 : DataW H × List MemPlace) (n : Nat), v = .agg #[v0, v1, v2, v3, v4, v5] ∧ d = .agg [y0.1, y1.1, y2.1, y3.1, y4.1, y5.1] ∧ p = y0.2 ++ (y1.2 ++ (y2.2 ++ (y3.2 ++ (y4.2 ++ y5.2)))) ∧
      DataW.trod enc P W base spare held n f0.type [v0] = some y0 ∧ DataW.trod enc P W base spare held n f1.type [v1] = some y1 ∧ DataW.trod enc P W base spare held n f2.type [v2] = some y2 ∧ DataW.trod enc P W base spare held n f3.type [v3] = some y3 ∧ DataW.trod enc P W base spare held n f4.type [v4] = some y4 ∧ DataW.trod enc P W base spare held n f5.type [v5] = some y5 := by
  obtain ⟨cs, rfl, hsz⟩ := okWide_struct hs hv
  obtain ⟨c0, c1, c2, c3, c4, c5, rfl⟩ := array6 (hsz.trans hC)
  obtain ⟨fuel, hf⟩ := h
  obtain ⟨xs, n, _, hx, hl, hlen, hf⟩ := DataW.trod_struct hs hf
  match xs, hlen with
  | [y0, y1, y2, y3, y4, y5], _ =>
    obtain ⟨o0, k0⟩ := hone_of hone 0 f0 rfl
    have h0 := hf 0 f0 rfl
    obtain ⟨o1, k1⟩ := hone_of hone 1 f1 rfl
    have h1 := hf 1 f1 rfl
    obtain ⟨o2, k2⟩ := hone_of hone 2 f2 rfl
    have h2 := hf 2 f2 rfl
    obtain ⟨o3, k3⟩ := hone_of hone 3 f3 rfl
    have h3 := hf 3 f3 rfl
    obtain ⟨o4, k4⟩ := hone_of hone 4 f4 rfl
    have h4 := hf 4 f4 rfl
    obtain ⟨o5, k5⟩ := hone_of hone 5 f5 rfl
    have h5 := hf 5 f5 rfl
    simp only [Prod.mk.injEq] at hx
    exact ⟨c0, c1, c2, c3, c4, c5, y0, y1, y2, y3, y4, y5, n, rfl, by simpa using hx.1, by simpa using hx.2, by simpa [Value.cells, o0, k0] using h0, by simpa [Value.cells, o1, k1] using h1, by simpa [Value.cells, o2, k2] using h2, by simpa [Value.cells, o3, k3] using h3, by simpa [Value.cells, o4, k4] using h4, by simpa [Value.cells, o5, k5] using h5⟩
theorem rel_agg6 {w : World} {ρ : Nat → Value} {rw N : Nat → Prop} {u0 u1 u2 u3 u4 u5 : Value} {s0 s1 s2 s3 s4 s5 : SV} (h0 : one u0) (h1 : one u1) (h2 : one u2) (h3 : one u3) (h4 : one u4) (h5 : one u5)
    (r0 : Rel w ρ rw N u0 s0) (r1 : Rel w ρ rw N u1 s1) (r2 : Rel w ρ rw N u2 s2) (r3 : Rel w ρ rw N u3 s3) (r4 : Rel w ρ rw N u4 s4) (r5 : Rel w ρ rw N u5 s5) : Rel w ρ rw N (.agg #[u0, u1, u2, u3, u4, u5]) (.agg [s0, s1, s2, s3, s4, s5]) := by
  refine .agg _ _ rfl ?_ ?_
  · intro v hv
    simp at hv
    rcases hv with rfl | rfl | rfl | rfl | rfl | rfl <;> assumption
  · intro i v s hv hs
    match i with
    | 0 => simp at hv hs; subst hv hs; exact r0
    | 1 => simp at hv hs; subst hv hs; exact r1
    | 2 => simp at hv hs; subst hv hs; exact r2
    | 3 => simp at hv hs; subst hv hs; exact r3
    | 4 => simp at hv hs; subst hv hs; exact r4
    | 5 => simp at hv hs; subst hv hs; exact r5
    | n + 6 => simp at hv
theorem u32_wf {z : Int} (h : (Lit.int .u32 z).wf = true) : 0 ≤ z ∧ z < 4294967296 := by
  simp [Lit.wf] at h
  have e1 : IntKind.u32.min = 0 := by decide
  have e2 : IntKind.u32.max = 4294967295 := by decide
  rw [e1, e2] at h
  exact ⟨h.1, by omega⟩
end
end Go.Vd

set_option linter.unusedVariables false
namespace Go.Vd
theorem u64_wf {z : Int} (h : (Lit.int .u64 z).wf = true) : 0 ≤ z ∧ z < 18446744073709551616 := by
  simp [Lit.wf] at h
  have e1 : IntKind.u64.min = 0 := by decide
  have e2 : IntKind.u64.max = 18446744073709551615 := by decide
  rw [e1, e2] at h
  omega
theorem i64_wf {z : Int} (h : (Lit.int .i64 z).wf = true) : -9223372036854775808 ≤ z ∧ z < 9223372036854775808 := by
  simp [Lit.wf] at h
  have e1 : IntKind.i64.min = -9223372036854775808 := by decide
  have e2 : IntKind.i64.max = 9223372036854775807 := by decide
  (try rw [e1] at h)
  (try rw [e2] at h)
  omega
theorem i16_wf {z : Int} (h : (Lit.int .i16 z).wf = true) : -32768 ≤ z ∧ z < 32768 := by
  simp [Lit.wf] at h
  have e1 : IntKind.i16.min = -32768 := by decide
  have e2 : IntKind.i16.max = 32767 := by decide
  (try rw [e1] at h)
  (try rw [e2] at h)
  omega
section
open Go.Proofs Go.ChangeShapes Go.WideShapes Go.ChangeAt Go.RowKit Go.Joins
variable {H : Type} {enc : TypeId × Value → H} {P : Program} {w : World} {base : Nat} {spare : Nat → Bool} {held : Bool}
theorem trodAll_five {t0 t1 t2 t3 t4 : TypeId} {args : Array Value} {ds : List (DataW H)} {ps : List MemPlace} (h : DataW.TrodAll enc P w base spare held [t0, t1, t2, t3, t4] args.toList ds ps) :
    ∃ v0 v1 v2 v3 v4 d0 d1 d2 d3 d4 p0 p1 p2 p3 p4, args = #[v0, v1, v2, v3, v4] ∧ ds = [d0, d1, d2, d3, d4] ∧ ps = p0 ++ p1 ++ p2 ++ p3 ++ p4 ∧ DataW.Trod enc P w base spare held t0 v0 d0 p0 ∧ DataW.Trod enc P w base spare held t1 v1 d1 p1 ∧ DataW.Trod enc P w base spare held t2 v2 d2 p2 ∧ DataW.Trod enc P w base spare held t3 v3 d3 p3 ∧ DataW.Trod enc P w base spare held t4 v4 d4 p4 := by
  obtain ⟨v0, vs0, d0, ds0, p0, q0, hargs, rfl, rfl, hd0, r0⟩ := trodAll_cons h
  obtain ⟨v1, vs1, d1, ds1, p1, q1, rfl, rfl, rfl, hd1, r1⟩ := trodAll_cons r0
  obtain ⟨v2, vs2, d2, ds2, p2, q2, rfl, rfl, rfl, hd2, r2⟩ := trodAll_cons r1
  obtain ⟨v3, vs3, d3, ds3, p3, q3, rfl, rfl, rfl, hd3, r3⟩ := trodAll_cons r2
  obtain ⟨v4, vs4, d4, ds4, p4, q4, rfl, rfl, rfl, hd4, r4⟩ := trodAll_cons r3
  obtain ⟨rfl, rfl, rfl⟩ := trodAll_nil r4
  exact ⟨v0, v1, v2, v3, v4, d0, d1, d2, d3, d4, p0, p1, p2, p3, p4, by cases args; simp_all, rfl, by simp, hd0, hd1, hd2, hd3, hd4⟩
end
end Go.Vd

set_option linter.unusedVariables false
set_option maxRecDepth 100000
namespace Go.Vd
open Go.Proofs Go.ChangeShapes Go.WideShapes Go.ChangeAt Go.RowKit Go.Joins Go.Deep Go.WideElems
section
variable {H : Type} {enc : TypeId × Value → H} {P : Program} {w : World} {base : Nat} {sp : Nat → Bool} {held : Bool}
/-- A struct of three numbers, as it is read. -/
theorem trod3 {fuel : Nat} {e : TypeId} {f0 f1 f2 : Field} {cs : List Value} {a b c : Int} {p : List MemPlace} (hs : P.underlying e = some (.struct #[f0, f1, f2])) (hone : oneCellFields P #[f0, f1, f2] = true)
    (h0 : P.underlying f0.type = some (.int .i64)) (h1 : P.underlying f1.type = some (.int .i64)) (h2 : P.underlying f2.type = some (.int .i64)) (hC : P.cellsOf e = 3)
    (h : DataW.trod enc P w base sp held fuel e cs = some (.agg [.lit (.int .i64 a), .lit (.int .i64 b), .lit (.int .i64 c)], p)) : cs = [.int .i64 a, .int .i64 b, .int .i64 c] := by
  obtain ⟨xs, n, _, hx, hl, hlen, hf⟩ := DataW.trod_struct hs h
  rw [hC] at hl
  match xs, hlen with
  | [y0, y1, y2], _ =>
    match cs, hl with
    | [c0, c1, c2], _ =>
      obtain ⟨o0, k0⟩ := hone_of hone 0 f0 rfl
      have g0 := hf 0 f0 rfl
      obtain ⟨o1, k1⟩ := hone_of hone 1 f1 rfl
      have g1 := hf 1 f1 rfl
      obtain ⟨o2, k2⟩ := hone_of hone 2 f2 rfl
      have g2 := hf 2 f2 rfl
      rw [o0, k0] at g0
      rw [o1, k1] at g1
      rw [o2, k2] at g2
      obtain ⟨z0, e0, i0, _⟩ := DataW.trod_int h0 g0
      obtain ⟨z1, e1, i1, _⟩ := DataW.trod_int h1 g1
      obtain ⟨z2, e2, i2, _⟩ := DataW.trod_int h2 g2
      simp only [Prod.mk.injEq] at hx
      have hx1 := hx.1
      simp at e0 e1 e2
      subst i0 i1 i2
      simp at hx1
      obtain ⟨r0, r1, r2⟩ := hx1
      subst r0 r1 r2 e0 e1 e2
      rfl
/-- A row of such. -/
theorem cells_of_known {fuel n : Nat} {t e : TypeId} {f0 f1 f2 : Field} {cs : List Value} {L : List (Int × Int × Int)} {p : List MemPlace} (ht : P.underlying t = some (.array n e)) (hs : P.underlying e = some (.struct #[f0, f1, f2])) (hone : oneCellFields P #[f0, f1, f2] = true)
    (h0 : P.underlying f0.type = some (.int .i64)) (h1 : P.underlying f1.type = some (.int .i64)) (h2 : P.underlying f2.type = some (.int .i64)) (hC : P.cellsOf e = 3)
    (h : DataW.trod enc P w base sp held fuel t cs = some (.agg (L.map fun x => .agg [.lit (.int .i64 x.1), .lit (.int .i64 x.2.1), .lit (.int .i64 x.2.2)]), p)) :
    cs.length = P.cellsOf t ∧ L.length = n ∧ ∀ i x, L[i]? = some x → (cs.drop (i * 3)).take 3 = [.int .i64 x.1, .int .i64 x.2.1, .int .i64 x.2.2] := by
  obtain ⟨xs, m, _, hx, hl, hlen, hf⟩ := DataW.trod_array ht h
  simp only [Prod.mk.injEq] at hx
  have hx1 : L.map (fun x => (DataW.agg [.lit (.int .i64 x.1), .lit (.int .i64 x.2.1), .lit (.int .i64 x.2.2)] : DataW H)) = xs.map (·.1) := by simpa using hx.1
  have hLl : L.length = n := by
    have := congrArg List.length hx1
    simp at this
    omega
  refine ⟨hl, hLl, fun i x hi => ?_⟩
  have hin : i < n := by
    rw [← hLl]
    exact (List.getElem?_eq_some_iff.1 hi).1
  have g := hf i hin
  rw [hC] at g
  have hxi : xs[i]? = some xs[i] := List.getElem?_eq_getElem (by omega)
  rw [hxi] at g
  have h3 : (DataW.agg [.lit (.int .i64 x.1), .lit (.int .i64 x.2.1), .lit (.int .i64 x.2.2)] : DataW H) = xs[i].1 := by
    have := congrArg (·[i]?) hx1
    simp [hi, hxi] at this
    exact this
  have g' : DataW.trod enc P w base sp held m e ((cs.drop (i * 3)).take 3) = some (.agg [.lit (.int .i64 x.1), .lit (.int .i64 x.2.1), .lit (.int .i64 x.2.2)], xs[i].2) := by
    rw [g, h3]
  exact trod3 hs hone h0 h1 h2 hC g'
end
def knownT : List (Int × Int × Int) := [(2, 3, 19), (3, 1, 6), (4, 1, 12), (7, 1, 10), (11, 1, 6), (12, 1, 6), (37, 2, 12), (38, 2, 6), (39, 2, 2), (41, 2, 8), (44, 4, 25), (48, 5, 999), (49, 1, 3), (90, 1, 42), (120, 5, 999)]
theorem gKnown : Tryz.prog.globalNamed "paydesk/field.known" = some 1 := by kernel_rfl
/-- What is known of the fields' own variable. -/
def KnownIs (w : World) : Prop := ∃ cs, w.var? Tryz.prog "paydesk/field.known" = some cs ∧ cs.size = 45 ∧ ∀ j, j < 45 → cs[j]? = some (.int .i64 (knownL.getD j 0))
theorem known_at : ∀ j, j < 45 → ∃ x, knownT[j / 3]? = some x ∧ ([x.1, x.2.1, x.2.2] : List Int)[j % 3]? = some (knownL.getD j 0) := by
  intro j hj
  have h : ∀ j : Fin 45, ∃ x : Fin 15, knownT[j.val / 3]? = knownT[x.val]? ∧ ((knownT[x.val]?).bind fun x => ([x.1, x.2.1, x.2.2] : List Int)[j.val % 3]?) = some (knownL.getD j.val 0) := by decide +kernel
  obtain ⟨x, h1, h2⟩ := h ⟨j, hj⟩
  simp only at h1 h2
  rw [← h1] at h2
  obtain ⟨y, h3, h4⟩ := Option.bind_eq_some_iff.1 h2
  exact ⟨y, h3, h4⟩
theorem gTypes : Tryz.prog.globalNamed "paydesk/deal.types" = some 0 := by kernel_rfl
def TypesIs (w : World) : Prop := ∃ cs, w.var? Tryz.prog "paydesk/deal.types" = some cs ∧ cs.size = 7 ∧ ∀ j, j < 7 → cs[j]? = some (.string ⟨(typesL.getD j []).toArray⟩)
section
variable {H : Type} {enc : TypeId × Value → H} {P : Program} {w : World} {base : Nat} {sp : Nat → Bool} {held : Bool}
theorem cells_of_types {fuel n : Nat} {t e : TypeId} {cs : List Value} {L : List (List UInt8)} {p : List MemPlace} (ht : P.underlying t = some (.array n e)) (he : P.underlying e = some .string) (hC : P.cellsOf e = 1)
    (h : DataW.trod enc P w base sp held fuel t cs = some (.agg (L.map fun x => .lit (.string x)), p)) :
    cs.length = P.cellsOf t ∧ L.length = n ∧ ∀ (i : Nat) (x : List UInt8), L[i]? = some x → cs[i]? = some (.string ⟨x.toArray⟩) := by
  obtain ⟨xs, m, _, hx, hl, hlen, hf⟩ := DataW.trod_array ht h
  simp only [Prod.mk.injEq] at hx
  have hx1 : L.map (fun x => (DataW.lit (.string x) : DataW H)) = xs.map (·.1) := by simpa using hx.1
  have hLl : L.length = n := by
    have := congrArg List.length hx1
    simp at this
    omega
  refine ⟨hl, hLl, fun i x hi => ?_⟩
  have hin : i < n := by
    rw [← hLl]
    exact (List.getElem?_eq_some_iff.1 hi).1
  have g := hf i hin
  rw [hC] at g
  have hxi : xs[i]? = some xs[i] := List.getElem?_eq_getElem (by omega)
  rw [hxi] at g
  have h3 : (DataW.lit (.string x) : DataW H) = xs[i].1 := by
    have := congrArg (·[i]?) hx1
    simp [hi, hxi] at this
    exact this
  obtain ⟨s, e1, e2, _⟩ := DataW.trod_string he g
  have e3 : (DataW.lit (.string x) : DataW H) = .lit (.string s.data.toList) := h3.trans (congrArg Prod.fst e2)
  injection e3 with e3
  injection e3 with e3
  have e4 := congrArg (·[0]?) e1
  simp [List.getElem?_drop] at e4
  rw [e4, e3]
end
/-- What the tables give of the package's variables. -/
theorem gl0_all {w : World} (hh : Lib.TabIs Tryz.prog w "internal/strconv.uint64pow10" .u64 Lib.pow10Tab ∧ KnownIs w ∧ TypesIs w) : GlOk gl0 w fun _ => False := by
  obtain ⟨h, ⟨cs0, hv0, hz0, hc0⟩, cs1, hv1, hz1, hc1⟩ := hh
  have hne : ∀ g, g ≠ 1 → g ≠ 0 → g ≠ 2 → gl0 g = .val (.pointer (some ⟨g, 0, none⟩)) := fun g hg hg0 hg1 => by
    unfold gl0
    split
    · first | exact absurd rfl hg0 | exact absurd rfl hg | exact absurd rfl hg1
    · first | exact absurd rfl hg0 | exact absurd rfl hg | exact absurd rfl hg1
    · first | exact absurd rfl hg0 | exact absurd rfl hg | exact absurd rfl hg1
    · rfl
  refine ⟨fun g ρ N => ?_, fun g k f e => ?_⟩
  · by_cases hg : g = 0
    · subst hg
      show Rel w ρ (fun _ => False) N _ (.rop 7 fun j => .str (typesL.getD j []))
      refine .rop ⟨0, 0, none⟩ 7 _ (fun j => .string ⟨(typesL.getD j []).toArray⟩) rfl (fun j hj => ⟨?_, rfl, fun e => e⟩) (fun j _ => by have := RelC.str (w := w) (rw := fun _ => False) ⟨(typesL.getD j []).toArray⟩; simpa using this)
      rw [Lib.add_plain, Nat.zero_add, World.var?_cell gTypes hv1]
      exact hc1 j hj
    · by_cases hg0 : g = 1
      · subst hg0
        show Rel w ρ (fun _ => False) N _ (.rop 45 fun j => .int .i64 (knownL.getD j 0))
        refine .rop ⟨1, 0, none⟩ 45 _ (fun j => .int .i64 (knownL.getD j 0)) rfl (fun j hj => ⟨?_, rfl, fun e => e⟩) (fun j _ => .int _ _)
        rw [Lib.add_plain, Nat.zero_add, World.var?_cell gKnown hv0]
        exact hc0 j hj
      · by_cases hg1 : g = 2
        · subst hg1
          show Rel w ρ (fun _ => False) N _ (.rop 20 fun j => .int .u64 (Lib.pow10Tab.getD j 0))
          refine .rop ⟨2, 0, none⟩ 20 _ (fun j => .int .u64 (Lib.pow10Tab.getD j 0)) rfl (fun j hj => ⟨?_, rfl, fun e => e⟩) (fun j _ => .int _ _)
          rw [Lib.add_plain, Nat.zero_add]
          exact h.cell gTab j (by rw [Lib.pow10Tab_length]; exact hj)
        · rw [hne g hg0 hg hg1]; exact .val _
  · by_cases hg : g = 0
    · subst hg
      have e2 : (SV.rop 7 fun j => .str (typesL.getD j [])) = .rop k f := e
      cases e2
      refine ⟨?_, fun e => e⟩
      unfold World.var? at hv1
      rw [gTypes] at hv1
      simp only [Option.bind_some] at hv1
      split at hv1
      · rename_i cs t b hc
        injection hv1 with hv1
        exact ⟨cs, t, b, hc, by rw [hv1]; exact hz1⟩
      · cases hv1
    · by_cases hg0 : g = 1
      · subst hg0
        have e2 : (SV.rop 45 fun j => .int .i64 (knownL.getD j 0)) = .rop k f := e
        cases e2
        refine ⟨?_, fun e => e⟩
        unfold World.var? at hv0
        rw [gKnown] at hv0
        simp only [Option.bind_some] at hv0
        split at hv0
        · rename_i cs t b hc
          injection hv0 with hv0
          exact ⟨cs, t, b, hc, by rw [hv0]; exact hz0⟩
        · cases hv0
      · by_cases hg1 : g = 2
        · subst hg1
          have e2 : (SV.rop 20 fun j => .int .u64 (Lib.pow10Tab.getD j 0)) = .rop k f := e
          cases e2
          refine ⟨?_, fun e => e⟩
          unfold Lib.TabIs World.var? at h
          rw [gTab] at h
          simp only [Option.bind_some] at h
          split at h
          · rename_i cs t b hc
            injection h with h
            exact ⟨cs, t, b, hc, by rw [h]; simp [Lib.pow10Tab_length]⟩
          · cases h
        · rw [hne g hg0 hg hg1] at e; cases e
end Go.Vd
namespace Go.Proofs.YtakcggldilbilaaGreatDoor
open Go.ChangeShapes Go.WideShapes Go.ChangeAt Go.ChangeMaps Go.RowKit Go.Joins
def laidL : List (String × DataW Unit) := [("math/bits.deBruijn32tab", Rows.laid_math_bits_deBruijn32tab), ("math/bits.deBruijn64tab", Rows.laid_math_bits_deBruijn64tab), ("internal/strconv.uint64pow10", Rows.laid_internal_strconv_uint64pow10), ("paydesk/field.known", Rows.laid_paydesk_field_known), ("paydesk/deal.types", Rows.laid_paydesk_deal_types)]
theorem Tryz.own : ownKnob Tryz.prog.godebug = none := by kernel_rfl
theorem Tryz.laidOut : laidOutB Tryz.prog = true := by kernel_rfl
theorem tTab : (Tryz.prog.globals[2]?).map (·.type) = some 234 := by kernel_rfl
theorem cTab : Tryz.prog.cellsOf 234 = 20 := by kernel_rfl
theorem cTabE : Tryz.prog.cellsOf 26 = 1 := by kernel_rfl
theorem dTab : (Rows.laid_internal_strconv_uint64pow10 : DataW Unit) = Lib.tabData .u64 Lib.pow10Tab := by kernel_rfl
theorem tKn : (Tryz.prog.globals[1]?).map (·.type) = some 186 := by kernel_rfl
theorem cKn : Tryz.prog.cellsOf 186 = 45 := by kernel_rfl
theorem cKnE : Tryz.prog.cellsOf 152 = 3 := by kernel_rfl
theorem dKn : (Rows.laid_paydesk_field_known : DataW Unit) = .agg (Vd.knownT.map fun x => .agg [.lit (.int .i64 x.1), .lit (.int .i64 x.2.1), .lit (.int .i64 x.2.2)]) := by kernel_rfl
theorem tTy : (Tryz.prog.globals[0]?).map (·.type) = some 102 := by kernel_rfl
theorem cTy : Tryz.prog.cellsOf 102 = 7 := by kernel_rfl
theorem cTyE : Tryz.prog.cellsOf 9 = 1 := by kernel_rfl
theorem dTy : (Rows.laid_paydesk_deal_types : DataW Unit) = .agg (Vd.typesL.map fun x => .lit (.string x)) := by kernel_rfl
theorem door_met (os : Os) (args : Array Value) : laidMetH Tryz.prog laidL ((World.doorLaid Tryz.prog 2000 os).forCall (fun _ _ => 0) ⟨#[], args, []⟩).memory :=
  laidMetH_of_parts3 (fuel := 8) (laidMet_of_run' 8 (by kernel_rfl) (by kernel_rfl)) (by kernel_rfl) (by kernel_rfl)
theorem laid_known {W : World} (h : laidMetH Tryz.prog laidL W) : Lib.TabIs Tryz.prog W "internal/strconv.uint64pow10" .u64 Lib.pow10Tab ∧ Vd.KnownIs W ∧ Vd.TypesIs W := by
  rw [MakeChecks.laidMetH_plain _ _ _ (by kernel_rfl)] at h
  obtain ⟨ps, ⟨_, _, _, _, _, _, _, _, _, _, ⟨_, _, _, _, _, _, _, _, _, _, ⟨g2, t2, cs2, f2, p2, q2, hg2, ht2, hv2, hd2, ⟨g3, t3, cs3, f3, p3, q3, hg3, ht3, hv3, hd3, ⟨g4, t4, cs4, f4, p4, q4, hg4, ht4, hv4, hd4, _, _⟩, _⟩, _⟩, _⟩, _⟩, _, _⟩ := h
  refine ⟨?_, ?_, ?_⟩
  · obtain rfl := Option.some.inj (Vd.gTab.symm.trans hg2)
    obtain rfl := Option.some.inj (tTab.symm.trans ht2)
    unfold Lib.TabIs
    rw [dTab] at hd2
    rw [hv2, ← Lib.cells_of_tab Tryz.underlying234 Tryz.underlying26 cTabE cTab hd2]
  · obtain rfl := Option.some.inj (Vd.gKnown.symm.trans hg3)
    obtain rfl := Option.some.inj (tKn.symm.trans ht3)
    rw [dKn] at hd3
    obtain ⟨hl, hn, hx⟩ := Vd.cells_of_known Tryz.underlying186 Tryz.underlying152 (by kernel_rfl) Tryz.underlying3 Tryz.underlying3 Tryz.underlying3 cKnE hd3
    rw [cKn] at hl
    refine ⟨cs3, hv3, by simpa using hl, fun j hj => ?_⟩
    obtain ⟨x, h1, h2⟩ := Vd.known_at j hj
    have h3 := hx _ x h1
    have h4 := congrArg (·[j % 3]?) h3

    rw [List.getElem?_take_of_lt (by omega), List.getElem?_drop, show j / 3 * 3 + j % 3 = j by omega] at h4
    rw [← Array.getElem?_toList, h4]
    have h5 := congrArg (Option.map (Value.int .i64)) h2
    rw [← List.getElem?_map] at h5
    exact h5
  · obtain rfl := Option.some.inj (Vd.gTypes.symm.trans hg4)
    obtain rfl := Option.some.inj (tTy.symm.trans ht4)
    rw [dTy] at hd4
    obtain ⟨hl, hn, hx⟩ := Vd.cells_of_types Tryz.underlying102 Tryz.underlying9 cTyE hd4
    rw [cTy] at hl
    refine ⟨cs4, hv4, by simpa using hl, fun j hj => ?_⟩
    rw [← Array.getElem?_toList]
    refine hx j _ ?_
    rw [List.getD_eq_getElem?_getD, List.getElem?_eq_getElem (by exact hj)]
    rfl
end Go.Proofs.YtakcggldilbilaaGreatDoor

