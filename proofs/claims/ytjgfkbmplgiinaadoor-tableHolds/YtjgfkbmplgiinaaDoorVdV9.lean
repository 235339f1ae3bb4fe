/- slices.SortFunc over a row of entries of the call's own, which it turns where it lies. -/
import Derived.Shelf.SlSortCmp.NoneTotal
import Derived.Test.YtjgfkbmplgiinaaDoorTrydShelf
set_option linter.unusedVariables false
set_option linter.unusedSimpArgs false
set_option maxRecDepth 100000
set_option maxHeartbeats 4000000
namespace Go.Proofs
open Go.Shelf Go.RowKit Go.Lib Go.Vd Go.Sort
instance entInh : Inhabited Ent := ⟨E0⟩
def encV (e : Ent) : List Value := [.int .u32 e.s, .string ⟨e.r.toArray⟩, .int .i64 e.st, .string ⟨e.pan.toArray⟩, .int .u64 e.am, .string ⟨e.code.toArray⟩, .int .i64 e.tr, .int .i64 e.ca]
noncomputable def srtA (L : List Ent) : Array Ent := pdq (ltOf ordE) L.toArray 0 L.toArray.size (Lib.bitLen L.toArray.size) true true
noncomputable def srtE (L : List Ent) : List Ent := (srtA L).toList
theorem ltE_iff (x y : Ent) : ltOf ordE x y = decide (x.s < y.s ∨ (x.s = y.s ∧ x.r < y.r)) := by
  unfold ltOf ordE
  rw [ordK_eq]
  by_cases h1 : x.s = y.s ∧ x.r = y.r
  · rw [if_pos h1]
    have h2 : ¬(x.s < y.s ∨ (x.s = y.s ∧ x.r < y.r)) := by
      rintro (h | h)
      · omega
      · rw [h1.2] at h; exact List.lt_irrefl _ h.2
    rw [decide_eq_false h2]; decide
  · rw [if_neg h1]
    by_cases h2 : x.s < y.s ∨ (x.s = y.s ∧ x.r < y.r)
    · rw [if_pos h2, decide_eq_true h2]; decide
    · rw [if_neg h2, decide_eq_false h2]; decide
theorem triL (a b : List UInt8) : a < b ∨ a = b ∨ b < a := by
  rcases triS a b with ⟨h, _⟩ | ⟨h, _⟩ | ⟨h, _⟩
  · exact .inl h
  · exact .inr (.inl h)
  · exact .inr (.inr h)
theorem swoE : SWO (ltOf ordE) where
  irrefl x := by
    rw [ltE_iff]
    refine decide_eq_false ?_
    rintro (h | h)
    · omega
    · exact List.lt_irrefl _ h.2
  trans x y z h1 h2 := by
    rw [ltE_iff] at *
    simp only [decide_eq_true_eq] at *
    rcases h1 with h1 | ⟨h1, h3⟩ <;> rcases h2 with h2 | ⟨h2, h4⟩
    · exact .inl (by omega)
    · exact .inl (by omega)
    · exact .inl (by omega)
    · exact .inr ⟨by omega, List.lt_trans h3 h4⟩
  ntrans x y z h1 h2 := by
    rw [ltE_iff] at *
    simp only [decide_eq_false_iff_not, not_or, not_and] at *
    refine ⟨by omega, fun h3 h4 => ?_⟩
    have h5 : x.s = y.s := by omega
    have h6 : y.s = z.s := by omega
    have h7 := h1.2 h5
    have h8 := h2.2 h6
    rcases triL x.r y.r with h | h | h
    · exact h7 h
    · rw [h] at h4; exact h8 h4
    · exact h8 (List.lt_trans h h4)
theorem srtE_sorts (L : List Ent) : (srtE L).length = L.length ∧ (srtE L).Perm L ∧ ∀ i j, i < j → j < L.length → ltOf ordE ((srtE L).getD j E0) ((srtE L).getD i E0) = false := by
  have h := pdq_sorts (ltOf ordE) swoE L.toArray 0 L.toArray.size (Lib.bitLen L.toArray.size) true true (Nat.zero_le _) (Nat.le_refl _) (Or.inl rfl)
  have hs : (srtA L).size = L.length := h.1.1.trans (by simp)
  have hb : ∀ j, (srtA L)[j]! = (srtE L).getD j E0 := fun j => by
    unfold srtE
    rw [List.getD_eq_getElem?_getD, Array.getElem?_toList, Array.getElem!_eq_getD, Array.getD_eq_getD_getElem?]
    rfl
  refine ⟨?_, ?_, fun i j hij hj => ?_⟩
  · unfold srtE; rw [Array.length_toList, hs]
  · have hp := h.1.2.2
    have e1 : ((srtA L).extract 0 L.toArray.size).toList = srtE L := by
      rw [← h.1.1]; unfold srtE; exact congrArg Array.toList (Array.extract_size ..)
    have e2 : (L.toArray.extract 0 L.toArray.size).toList = L := by rw [Array.extract_size]
    rw [e2] at hp
    rw [← e1]
    exact hp
  · rw [← hb, ← hb]
    exact h.2 i j (Nat.zero_le _) hij (by simpa using hj)
theorem one_encV (x : Ent) : ∀ v ∈ encV x, v.oneCell' = true := fun v hv => by
  simp only [encV, List.mem_cons, List.not_mem_nil, or_false] at hv
  rcases hv with rfl | rfl | rfl | rfl | rfl | rfl | rfl | rfl <;> rfl
theorem eight {j : Nat} (hj : j < 8) : j = 0 ∨ j = 1 ∨ j = 2 ∨ j = 3 ∨ j = 4 ∨ j = 5 ∨ j = 6 ∨ j = 7 := by omega
theorem ba_eq (s : ByteArray) : (⟨s.data.toList.toArray⟩ : ByteArray) = s := by apply ByteArray.ext; simp
theorem relC_str {w : World} {rw : Nat → Prop} {L : List UInt8} {v : Value} (h : RelC w rw v (.str L)) : v = .string ⟨L.toArray⟩ := by
  generalize hs : SV.str L = t at h
  cases h with
  | str s => cases hs; rw [ba_eq]
  | _ => cases hs
theorem relC_int {w : World} {rw : Nat → Prop} {k : IntKind} {n : Int} {v : Value} (h : RelC w rw v (.int k n)) : v = .int k n := by
  generalize hs : SV.int k n = t at h
  cases h with
  | int => cases hs; rfl
  | _ => cases hs
theorem encV_get {w : World} {rw : Nat → Prop} {e : Ent} {j : Nat} (hj : j < 8) {v : Value} (h : RelC w rw v (getAt (eE std fun _ => e) j)) : (encV e)[j]? = some v := by
  rcases eight hj with rfl | rfl | rfl | rfl | rfl | rfl | rfl | rfl
  all_goals
    simp only [eE, getAt, std_add, std_sub, std_mul, std_quo, std_rem, std_band, std_bor, std_bxor, std_shl, std_shr, std_eq, std_ne, std_lt, std_le, std_conv, std_not, std_beq, std_bne, std_ite, std_want, std_and2, std_sadd, std_seq, std_sne, std_slt, std_sle, std_sgt, std_sge, std_slen, std_sget, std_scut, std_ofNat, std_toNat, std_nsub, std_nadd, std_lenOf, std_nz, std_nneg, std_inb, std_upto, std_slt63, std_grow, std_imp, std_impN, std_tr, std_tb, std_ti, std_ts, std_tn, std_tp, std_nmin, std_makes, std_room, std_zeros, std_nilq, std_notq, std_eqi, std_eqn, std_eqb, std_eqs, std_eqv, std_cat, std_lst, std_rset, std_rcopy, std_shift, std_eqr, std_strOf, std_bytesOf, std_isB, std_zOf, zOf_int, std_isI, isI_int, std_getL, std_nmul, std_sOf, sOf_str, std_isS, isS_str, std_fadd, std_fsub, std_fav, std_fsv, std_feq, std_fne, std_flt, std_fle, std_fgt, std_fge, std_fOf, std_fTo, std_fTv] at h
    first
      | (rw [relC_int h]; rfl)
      | (rw [relC_str h]; rfl)
theorem encV_rel (w : World) (rw : Nat → Prop) (e : Ent) {j : Nat} (hj : j < 8) {v : Value} (h : (encV e)[j]? = some v) : RelC w rw v (getAt (eE std fun _ => e) j) := by
  rcases eight hj with rfl | rfl | rfl | rfl | rfl | rfl | rfl | rfl <;> cases h
  · exact .int _ _
  · exact .str ⟨e.r.toArray⟩
  · exact .int _ _
  · exact .str ⟨e.pan.toArray⟩
  · exact .int _ _
  · exact .str ⟨e.code.toArray⟩
  · exact .int _ _
  · exact .int _ _
theorem flat_get (L : List Ent) {i j : Nat} (hi : i < L.length) (hj : j < 8) : (flatK encV 8 L.toArray)[i * 8 + j]? = (encV (L.getD i E0))[j]? := by
  have h8 : (encV (L.getD i E0)).length = 8 := rfl
  have hlt : i * 8 + j < (flatK encV 8 L.toArray).size := by rw [size_flatK]; simp; omega
  have h := get_flatK encV 8 L.toArray (i * 8 + j) (by rw [size_flatK] at hlt; exact hlt)
  rw [show (i * 8 + j) / 8 = i by omega, show (i * 8 + j) % 8 = j by omega, getElem!_pos (flatK encV 8 L.toArray) (i * 8 + j) hlt] at h
  rw [Array.getElem?_eq_getElem hlt, h]
  have e1 : L.toArray[i]! = L.getD i E0 := by
    rw [getElem!_pos L.toArray i (by simpa using hi), List.getD_eq_getElem?_getD, List.getElem?_eq_getElem hi]
    simp
  rw [e1, List.getElem?_eq_getElem (by omega), getElem!_pos (encV (L.getD i E0)) j (by omega)]
theorem cmpE_lays (blk off size : Nat) (w : World) : CmpLays Tryd.prog 23 #[] encV 8 ordE blk off size w :=
  fun _ _ _ _ x y => all1_w x.s y.s x.st y.st x.am y.am x.tr y.tr x.ca y.ca ⟨x.r.toArray⟩ ⟨y.r.toArray⟩ ⟨x.pan.toArray⟩ ⟨y.pan.toArray⟩ ⟨x.code.toArray⟩ ⟨y.code.toArray⟩ _
theorem sort_ok (gl : Nat → SV) (n : Nat) (g : Nat → Nat → SV) (hr : isRow eE E0 8 n g) (hn0 : n ≤ 1000000) :
    GoodS Tryd.prog gl 22 37 8 n g [.clo 23 []] (rowF eE E0 std fun _ => srtE (lstOf eE E0 8 n g)) := by
  intro w ρ rw N v vs xs hrw hgl hv hown hone hrel hargs
  obtain ⟨L, hL⟩ : ∃ L, L = lstOf eE E0 8 n g := ⟨_, rfl⟩
  have hRep : Reps eE E0 8 n g L := hL ▸ hr.reps
  rw [← hL]
  clear hL hr
  have hn := hRep.1
  subst hn
  match vs, hargs with
  | [v1], ⟨r1, _⟩ =>
    have e1 : v1 = .func (.func 23) #[] #[] := by
      generalize hs : SV.clo 23 [] = t at r1
      cases r1 with
      | clo f cs l hl h hm =>
        cases hs
        have : cs = #[] := Array.eq_empty_of_size_eq_zero hl
        rw [this]
      | _ => cases hs
    subst e1
    have hxl : xs.length = L.length * 8 := hown.1
    have hxs : xs = (flatK encV 8 L.toArray).toList := by
      apply List.ext_getElem?
      intro t
      rcases Nat.lt_or_ge t (L.length * 8) with ht | ht
      · have h1 := flat_get L (i := t / 8) (j := t % 8) (by omega) (Nat.mod_lt _ (by decide))
        rw [show t / 8 * 8 + t % 8 = t by omega] at h1
        have h3 : (flatK encV 8 L.toArray).toList[t]? = (flatK encV 8 L.toArray)[t]? := Array.getElem?_toList
        rw [h3, h1, List.getElem?_eq_getElem (show t < xs.length by omega)]
        have h2 := hrel (t / 8) (t % 8) xs[t] (by omega) (Nat.mod_lt _ (by decide)) (by rw [show t / 8 * 8 + t % 8 = t by omega]; exact List.getElem?_eq_getElem (by omega))
        exact (encV_get (Nat.mod_lt _ (by decide)) (RelC.ceq (hRep.2 _ _ (by omega) (Nat.mod_lt _ (by decide))) h2)).symm
      · rw [List.getElem?_eq_none (by omega), List.getElem?_eq_none (by simp; omega)]
    rcases hown.2 with ⟨⟨a, rfl⟩, h0⟩ | ⟨blk, cap, cur, rfl, hc0, hC, hnc, hcm, hcs, htk⟩
    · have hl0 : L = [] := List.eq_nil_of_length_eq_zero h0
      subst hl0
      refine (AnyF.slices_SortFunc_none Tryd.sortEn a 0 _ w).mono fun en w' hq => ?_
      obtain ⟨rfl, rfl⟩ := hq
      exact ⟨rfl, xs, hown, hone, ⟨rfl, rfl, rfl, Nat.le_refl _, fun _ _ _ => rfl⟩, fun _ _ i j u hi => absurd hi (Nat.not_lt_zero _)⟩
    · obtain ⟨mk, hh, hmk⟩ := hC
      obtain rfl : mk = (0, 0) := by
        rcases hmk with h | ⟨_, h⟩
        · exact h
        · exact absurd h (by decide)
      have hblk : blk < w.heap.size := (Array.getElem?_eq_some_iff.1 hh).1
      have hH : HoldsK encV 8 w blk 0 L.toArray := fun t ht => by
        rw [size_flatK] at ht
        have ht' : t < L.length * 8 := by simpa using ht
        have h3 : (flatK encV 8 L.toArray)[t]? = cur[t]? := by
          have h4 : (flatK encV 8 L.toArray)[t]? = xs[t]? := by rw [hxs]; exact Array.getElem?_toList.symm
          rw [h4, ← htk, List.getElem?_take_of_lt ht', Array.getElem?_toList]
        have ht2 : t < (flatK encV 8 L.toArray).size := by rw [size_flatK]; exact ht
        refine ⟨?_, ?_⟩
        · rw [Nat.zero_add, getElem!_pos (flatK encV 8 L.toArray) t ht2, World.cell?]
          simp only [hh]
          rw [← h3, Array.getElem?_eq_getElem ht2]
          rfl
        · rw [World.frozen?]
          simp only [hh]
          simp
      have hsrt := srtE_sorts L
      have h := AnyQ.slices_SortFunc_eq Tryd.sortEn 8 Tryd.isAgg37 Tryd.sizeOf37 encV (fun _ => rfl) one_encV ordE swoE 23 #[] blk 0 cap L.toArray w (enters_of Tryd.func23 (by kernel_rfl) rfl) (cmpE_lays blk 0 L.toArray.size w) hH hblk (by simp; omega)
      rw [show L.toArray.size = L.length by simp] at h
      refine h.mono fun en w' hq => ?_
      obtain ⟨rfl, m, os, rfl⟩ := hq
      rw [show pdq (ltOf ordE) L.toArray 0 L.length (Lib.bitLen L.length) true true = srtA L by unfold srtA; rw [show L.toArray.size = L.length by simp]]
      obtain ⟨D, hD⟩ : ∃ D, D = srtE L := ⟨_, rfl⟩
      have hA : srtA L = D.toArray := by rw [hD]; unfold srtE; simp
      rw [← hD] at hsrt ⊢
      rw [hA]
      clear hD hA h
      obtain ⟨F, hF⟩ : ∃ F, F = flatK encV 8 D.toArray := ⟨_, rfl⟩
      have hFs : F.size = L.length * 8 := by rw [hF, size_flatK]; simp [hsrt.1]
      have hcl : L.length * 8 ≤ cur.size := by rw [hcs]; exact Nat.mul_le_mul_right 8 hnc
      obtain ⟨cur2, hcur2⟩ : ∃ cur2, cur2 = putCells id 0 F cur := ⟨_, rfl⟩
      have hz2 : cur2.size = cur.size := by rw [hcur2]; simp [putCells]
      have htk2 : cur2.toList.take (L.length * 8) = F.toList := by
        apply List.ext_getElem?
        intro t
        rcases Nat.lt_or_ge t (L.length * 8) with ht | ht
        · rw [List.getElem?_take_of_lt ht, Array.getElem?_toList, Array.getElem?_toList, hcur2]
          simp only [putCells, Array.getElem?_mapIdx]
          rw [Array.getElem?_eq_getElem (show t < cur.size by omega), Array.getElem?_eq_getElem (show t < F.size by omega), Option.map_some, if_pos ⟨Nat.zero_le _, by omega⟩, Nat.sub_zero, getElem!_pos F t (by omega)]
          rfl
        · rw [List.getElem?_eq_none (by rw [List.length_take]; omega), List.getElem?_eq_none (by rw [Array.length_toList, hFs]; exact ht)]
      have hhp : ∀ b, b < w.heap.size → (sortWorldK encV 8 w blk 0 m D.toArray os).heap[b]? = if b = blk then some (.cells cur2 37 (0, 0)) else w.heap[b]? := fun b hb => by
        unfold sortWorldK
        rw [heap_grow_old _ _ (by show b < (putRow id _ blk 0 _).heap.size; rw [size_putRow]; exact hb)]
        show (w.heap.modify blk (onCells (putCells id 0 (flatK encV 8 D.toArray))))[b]? = _
        rw [Array.getElem?_modify]
        by_cases e : b = blk
        · subst e
          rw [if_pos rfl, if_pos rfl, hh, hcur2, hF]
          rfl
        · rw [if_neg (fun e' => e e'.symm), if_neg e]
      refine ⟨rfl, F.toList, ⟨by rw [Array.length_toList, hFs], .inr ⟨blk, cap, cur2, rfl, hc0, .of ((hhp blk hblk).trans (if_pos rfl)), hnc, hcm, hz2.trans hcs, htk2⟩⟩, ?_, ⟨rfl, rfl, rfl, ?_, fun b hb hne => ?_⟩, ?_⟩
      · intro u hu
        obtain ⟨t, ht⟩ := List.mem_iff_getElem?.1 hu
        have hts : t < L.length * 8 := by
          have := (List.getElem?_eq_some_iff.1 ht).1
          rw [Array.length_toList, hFs] at this
          exact this
        have h1 := flat_get D (i := t / 8) (j := t % 8) (by omega) (Nat.mod_lt _ (by decide))
        rw [show t / 8 * 8 + t % 8 = t by omega, ← hF, ← Array.getElem?_toList, ht] at h1
        exact one_encV _ u (List.mem_of_getElem? h1.symm)
      · unfold sortWorldK
        rw [size_grow]
        show w.heap.size ≤ (putRow id _ blk 0 _).heap.size + _
        rw [size_putRow]
        exact Nat.le_add_right _ _
      · rw [hhp b hb, if_neg (fun e => hne (by rw [e, blkNo_slice hc0]))]
      · intro rw' _ i j u hi hj hu
        rw [Array.getElem?_toList, hF, flat_get D (by omega) hj] at hu
        exact encV_rel _ _ _ hj hu
end Go.Proofs

set_option linter.unusedVariables false
set_option linter.unusedSimpArgs false
set_option maxRecDepth 100000
set_option maxHeartbeats 8000000
namespace Go.Vd
open Go.Proofs
def rCloneT (A : Ar) (L : Unit → Tbl) : SV := .frs 22 1 (A.tn fun _ => (L ()).length) (rowF eEs [] A L)
attribute [local irreducible] vc
theorem good_CloneT (T : Tbl) (hT : T.length ≤ 1000000) : GoodP Tryd.prog gl0 46 [rowS eEs [] 1 std fun _ => T] (rCloneT std fun _ => T) := by
  refine fn_sound' (T := seatT) (G := noC) (X := noX) seatT_ok noC_ok noX_ok noI_ok mixed Tryd.func46 (.fresh 22 1) (fun A => [rowS eEs [] 1 A fun _ => T]) (fun A => rCloneT A fun _ => T) fun A hA => ?_
  cbv
  repeat' (first | with_reducible exact True.intro | with_reducible exact dr_ok hA (by kernel_rfl) | with_reducible refine And.intro ?_ ?_ | (intro hc; cbv))
  all_goals (subst hA; simp [std_add, std_sub, std_mul, std_quo, std_rem, std_band, std_bor, std_bxor, std_shl, std_shr, std_eq, std_ne, std_lt, std_le, std_conv, std_not, std_beq, std_bne, std_ite, std_want, std_and2, std_sadd, std_seq, std_sne, std_slt, std_sle, std_sgt, std_sge, std_slen, std_sget, std_scut, std_ofNat, std_toNat, std_nsub, std_nadd, std_lenOf, std_nz, std_nneg, std_inb, std_upto, std_slt63, std_grow, std_imp, std_impN, std_tr, std_tb, std_ti, std_ts, std_tn, std_tp, std_nmin, std_makes, std_room, std_zeros, std_nilq, std_notq, std_eqi, std_eqn, std_eqb, std_eqs, std_eqv, std_cat, std_lst, std_rset, std_rcopy, std_shift, std_eqr, std_strOf, std_bytesOf, std_isB, std_zOf, zOf_int, std_isI, isI_int, std_getL, std_nmul, std_sOf, sOf_str, std_isS, isS_str, std_fadd, std_fsub, std_fav, std_fsv, std_feq, std_fne, std_flt, std_fle, std_fgt, std_fge, std_fOf, std_fTo, std_fTv] at *)
  all_goals first
    | omega
    | (have hq := hc (by assumption); rw [hq]; rfl)
    | (have hq := hc (by assumption); rw [hq]; intro i j hi; exact absurd hi (by simp))
    | (apply eqr_of; (exact (Reps.nil.cat (Reps.lit T)).congr rfl (List.nil_append T)); (first | (simp; done) | omega | rfl); rfl)
    | trace_state
noncomputable def c_CloneT : Ct := fun A args => match args with
  | [.slc n 1 f] => some (some (A.tp fun _ => isRow eEs [] 1 n f ∧ n ≤ 1000000), rCloneT A fun _ => lstOf eEs [] 1 n f)
  | _ => none
theorem good_CloneN (L : List Ent) (hL : L.length ≤ 1000000) : GoodP Tryd.prog gl0 47 [rowS eE E0 8 std fun _ => L] (rowS eE E0 8 std fun _ => L) := by
  refine fn_sound' (T := seatT) (G := noC) (X := noX) seatT_ok noC_ok noX_ok noI_ok mixed Tryd.func47 (.none) (fun A => [rowS eE E0 8 A fun _ => L]) (fun A => rowS eE E0 8 A fun _ => L) fun A hA => ?_
  cbv
  repeat' (first | with_reducible exact True.intro | with_reducible exact dr_ok hA (by kernel_rfl) | with_reducible refine And.intro ?_ ?_ | (intro hc; cbv))
  all_goals (subst hA; simp [std_add, std_sub, std_mul, std_quo, std_rem, std_band, std_bor, std_bxor, std_shl, std_shr, std_eq, std_ne, std_lt, std_le, std_conv, std_not, std_beq, std_bne, std_ite, std_want, std_and2, std_sadd, std_seq, std_sne, std_slt, std_sle, std_sgt, std_sge, std_slen, std_sget, std_scut, std_ofNat, std_toNat, std_nsub, std_nadd, std_lenOf, std_nz, std_nneg, std_inb, std_upto, std_slt63, std_grow, std_imp, std_impN, std_tr, std_tb, std_ti, std_ts, std_tn, std_tp, std_nmin, std_makes, std_room, std_zeros, std_nilq, std_notq, std_eqi, std_eqn, std_eqb, std_eqs, std_eqv, std_cat, std_lst, std_rset, std_rcopy, std_shift, std_eqr, std_strOf, std_bytesOf, std_isB, std_zOf, zOf_int, std_isI, isI_int, std_getL, std_nmul, std_sOf, sOf_str, std_isS, isS_str, std_fadd, std_fsub, std_fav, std_fsv, std_feq, std_fne, std_flt, std_fle, std_fgt, std_fge, std_fOf, std_fTo, std_fTv] at *)
  all_goals first
    | omega
    | (have hq := hc (by assumption); rw [hq]; rfl)
    | (have hq := hc (by assumption); rw [hq]; intro i j hi; exact absurd hi (by simp))
    | (apply eqr_of; (exact (Reps.nil.cat (Reps.lit L)).congr rfl (List.nil_append L)); (first | (simp; done) | omega | rfl); rfl)
    | trace_state
noncomputable def c_CloneN : Ct := fun A args => match args with
  | [.slc n 8 f] => some (some (A.tp fun _ => isRow eE E0 8 n f ∧ n ≤ 1000000), rowS eE E0 8 A fun _ => lstOf eE E0 8 n f)
  | _ => none
noncomputable def gv3 : Ar → Pu := addC 46 c_CloneT (addC 47 c_CloneN (gv2))
theorem gv3_ok : PuOk Tryd.prog gl0 (gv3 std) := by
  refine addC_ok (addC_ok (gv2_ok) ⟨_, Tryd.func47, rfl, by decide⟩ ?_) ⟨_, Tryd.func46, rfl, by decide⟩ ?_
  · intro args p r h hp
    unfold c_CloneN at h
    split at h <;> cases h
    exact good_sv (good_CloneN _ (by rw [lstOf_length hp.1]; exact hp.2)) ⟨hp.1.sv, trivial⟩
  · intro args p r h hp
    unfold c_CloneT at h
    split at h <;> cases h
    exact good_sv (good_CloneT _ (by rw [lstOf_length hp.1]; exact hp.2)) ⟨hp.1.sv, trivial⟩
theorem cell_T {T : Tbl} {i n : Nat} {f : Nat → Nat → SV} (h : Reps eE E0 8 n f (T.getD i [])) : ∀ j, j < 1 → Ceq (getAt [SV.slc n 8 f] j) (getAt (eEs std fun _ => T.getD i []) j) := cell_eEs h
theorem good_fTable (m : Int) (T : Tbl) (hQ : tbQ T) : GoodP Tryd.prog gl0 26 [.agg [.int .i64 m, rowS eEs [] 1 std fun _ => T]] (.agg [.int .i64 m, rCloneT std fun _ => T]) := by
  refine fn_sound' (T := seatT) (G := gv3) (X := noX) seatT_ok gv3_ok noX_ok noI_ok mixed Tryd.func26 (.one) (fun A => [.agg [.int .i64 m, rowS eEs [] 1 A fun _ => T]]) (fun A => .agg [.int .i64 m, rCloneT A fun _ => T]) fun A hA => ?_
  cbv
  repeat' (first | with_reducible exact True.intro | with_reducible exact dr_ok hA (by kernel_rfl) | with_reducible refine And.intro ?_ ?_ | (intro hc; cbv))
  · subst hA
    simp only [std_add, std_sub, std_mul, std_quo, std_rem, std_band, std_bor, std_bxor, std_shl, std_shr, std_eq, std_ne, std_lt, std_le, std_conv, std_not, std_beq, std_bne, std_ite, std_want, std_and2, std_sadd, std_seq, std_sne, std_slt, std_sle, std_sgt, std_sge, std_slen, std_sget, std_scut, std_ofNat, std_toNat, std_nsub, std_nadd, std_lenOf, std_nz, std_nneg, std_inb, std_upto, std_slt63, std_grow, std_imp, std_impN, std_tr, std_tb, std_ti, std_ts, std_tn, std_tp, std_nmin, std_makes, std_room, std_zeros, std_nilq, std_notq, std_eqi, std_eqn, std_eqb, std_eqs, std_eqv, std_cat, std_lst, std_rset, std_rcopy, std_shift, std_eqr, std_strOf, std_bytesOf, std_isB, std_zOf, zOf_int, std_isI, isI_int, std_getL, std_nmul, std_sOf, sOf_str, std_isS, isS_str, std_fadd, std_fsub, std_fav, std_fsv, std_feq, std_fne, std_flt, std_fle, std_fgt, std_fge, std_fOf, std_fTo, std_fTv, isRow_T]
    exact ⟨trivial, hQ.1⟩
  obtain ⟨n0, hn0⟩ : ∃ n0, n0 = T.length := ⟨_, rfl⟩
  refine ⟨⟨{i : Nat // i ≤ T.length}, fun b i => [(10, .own 4), (11, .int .i64 (n0 : Nat)), (12, .int .i64 (i.1 : Nat))], fun b i => [(4, .row 22 1 (A.tn fun _ => T.length) (rowF eEs [] A fun _ => T)), (0, .box 27 [.int .i64 m, .own 4])], fun i => T.length - i.1, true⟩, ⟨⟨0, by omega⟩, ?_⟩, ?_⟩
  · cbv
    subst hA
    simp [-List.getD_eq_getElem?_getD, std_add, std_sub, std_mul, std_quo, std_rem, std_band, std_bor, std_bxor, std_shl, std_shr, std_eq, std_ne, std_lt, std_le, std_conv, std_not, std_beq, std_bne, std_ite, std_want, std_and2, std_sadd, std_seq, std_sne, std_slt, std_sle, std_sgt, std_sge, std_slen, std_sget, std_scut, std_ofNat, std_toNat, std_nsub, std_nadd, std_lenOf, std_nz, std_nneg, std_inb, std_upto, std_slt63, std_grow, std_imp, std_impN, std_tr, std_tb, std_ti, std_ts, std_tn, std_tp, std_nmin, std_makes, std_room, std_zeros, std_nilq, std_notq, std_eqi, std_eqn, std_eqb, std_eqs, std_eqv, std_cat, std_lst, std_rset, std_rcopy, std_shift, std_eqr, std_strOf, std_bytesOf, std_isB, std_zOf, zOf_int, std_isI, isI_int, std_getL, std_nmul, std_sOf, sOf_str, std_isS, isS_str, std_fadd, std_fsub, std_fav, std_fsv, std_feq, std_fne, std_flt, std_fle, std_fgt, std_fge, std_fOf, std_fTo, std_fTv, lstOf_T, hn0]
  · rintro ⟨i, hi⟩
    have hT := hQ.1
    have hTi := hQ.2.1 i
    rcases Nat.lt_or_ge i T.length with hlt | hge
    · obtain ⟨i', hi'⟩ : ∃ i', i' = i + 1 := ⟨_, rfl⟩
      cbv
      repeat' (first | with_reducible exact True.intro | with_reducible exact dr_ok hA (by kernel_rfl) | with_reducible refine And.intro ?_ ?_ | (intro hc; cbv))
      all_goals first
        | (fail_if_success (refine Exists.intro ?_ ?_)
           subst hA
           simp only [std_add, std_sub, std_mul, std_quo, std_rem, std_band, std_bor, std_bxor, std_shl, std_shr, std_eq, std_ne, std_lt, std_le, std_conv, std_not, std_beq, std_bne, std_ite, std_want, std_and2, std_sadd, std_seq, std_sne, std_slt, std_sle, std_sgt, std_sge, std_slen, std_sget, std_scut, std_ofNat, std_toNat, std_nsub, std_nadd, std_lenOf, std_nz, std_nneg, std_inb, std_upto, std_slt63, std_grow, std_imp, std_impN, std_tr, std_tb, std_ti, std_ts, std_tn, std_tp, std_nmin, std_makes, std_room, std_zeros, std_nilq, std_notq, std_eqi, std_eqn, std_eqb, std_eqs, std_eqv, std_cat, std_lst, std_rset, std_rcopy, std_shift, std_eqr, std_strOf, std_bytesOf, std_isB, std_zOf, zOf_int, std_isI, isI_int, std_getL, std_nmul, std_sOf, sOf_str, std_isS, isS_str, std_fadd, std_fsub, std_fav, std_fsv, std_feq, std_fne, std_flt, std_fle, std_fgt, std_fge, std_fOf, std_fTo, std_fTv, Int.ofNat_eq_natCast, Int.toNat_natCast, isRow_V, lstOf_V, isRow_T, lstOf_T] at *
           first
             | exact ⟨trivial, hTi⟩
             | (constructor <;> omega))
        | (exfalso
           subst hA
           simp only [std_add, std_sub, std_mul, std_quo, std_rem, std_band, std_bor, std_bxor, std_shl, std_shr, std_eq, std_ne, std_lt, std_le, std_conv, std_not, std_beq, std_bne, std_ite, std_want, std_and2, std_sadd, std_seq, std_sne, std_slt, std_sle, std_sgt, std_sge, std_slen, std_sget, std_scut, std_ofNat, std_toNat, std_nsub, std_nadd, std_lenOf, std_nz, std_nneg, std_inb, std_upto, std_slt63, std_grow, std_imp, std_impN, std_tr, std_tb, std_ti, std_ts, std_tn, std_tp, std_nmin, std_makes, std_room, std_zeros, std_nilq, std_notq, std_eqi, std_eqn, std_eqb, std_eqs, std_eqv, std_cat, std_lst, std_rset, std_rcopy, std_shift, std_eqr, std_strOf, std_bytesOf, std_isB, std_zOf, zOf_int, std_isI, isI_int, std_getL, std_nmul, std_sOf, sOf_str, std_isS, isS_str, std_fadd, std_fsub, std_fav, std_fsv, std_feq, std_fne, std_flt, std_fle, std_fgt, std_fge, std_fOf, std_fTo, std_fTv, Int.ofNat_eq_natCast, Int.toNat_natCast, isRow_V, lstOf_V, isRow_T, lstOf_T] at *
           have := of_decide_eq_false hc
           omega)
        | (refine ⟨⟨i', by omega⟩, ?_, show T.length - i' < T.length - i by omega⟩
           cbv
           subst hA
           simp [-List.getD_eq_getElem?_getD, std_add, std_sub, std_mul, std_quo, std_rem, std_band, std_bor, std_bxor, std_shl, std_shr, std_eq, std_ne, std_lt, std_le, std_conv, std_not, std_beq, std_bne, std_ite, std_want, std_and2, std_sadd, std_seq, std_sne, std_slt, std_sle, std_sgt, std_sge, std_slen, std_sget, std_scut, std_ofNat, std_toNat, std_nsub, std_nadd, std_lenOf, std_nz, std_nneg, std_inb, std_upto, std_slt63, std_grow, std_imp, std_impN, std_tr, std_tb, std_ti, std_ts, std_tn, std_tp, std_nmin, std_makes, std_room, std_zeros, std_nilq, std_notq, std_eqi, std_eqn, std_eqb, std_eqs, std_eqv, std_cat, std_lst, std_rset, std_rcopy, std_shift, std_eqr, std_strOf, std_bytesOf, std_isB, std_zOf, zOf_int, std_isI, isI_int, std_getL, std_nmul, std_sOf, sOf_str, std_isS, isS_str, std_fadd, std_fsub, std_fav, std_fsv, std_feq, std_fne, std_flt, std_fle, std_fgt, std_fge, std_fOf, std_fTo, std_fTv]
           refine ⟨w_succ' hi' (by omega), ?_⟩
           have h := (Reps.lit (enc := eEs) (d := []) (k := 1) T).rset' (i := i) hlt (T.getD i []) (l := [SV.slc _ 8 _]) rfl (cell_T (Reps.lit (enc := eE) (d := E0) (k := 8) (T.getD i [])))
           rw [set_getD] at h
           first
             | exact h.eqr
             | (simp only [lstOf_V]; exact h.eqr)
             | trace_state)
        | trace_state
    · have hie : i = T.length := by omega
      cbv
      repeat' (first | with_reducible exact True.intro | with_reducible exact dr_ok hA (by kernel_rfl) | with_reducible refine And.intro ?_ ?_ | (intro hc; cbv))
      all_goals first
        | (exfalso
           subst hA
           simp only [std_add, std_sub, std_mul, std_quo, std_rem, std_band, std_bor, std_bxor, std_shl, std_shr, std_eq, std_ne, std_lt, std_le, std_conv, std_not, std_beq, std_bne, std_ite, std_want, std_and2, std_sadd, std_seq, std_sne, std_slt, std_sle, std_sgt, std_sge, std_slen, std_sget, std_scut, std_ofNat, std_toNat, std_nsub, std_nadd, std_lenOf, std_nz, std_nneg, std_inb, std_upto, std_slt63, std_grow, std_imp, std_impN, std_tr, std_tb, std_ti, std_ts, std_tn, std_tp, std_nmin, std_makes, std_room, std_zeros, std_nilq, std_notq, std_eqi, std_eqn, std_eqb, std_eqs, std_eqv, std_cat, std_lst, std_rset, std_rcopy, std_shift, std_eqr, std_strOf, std_bytesOf, std_isB, std_zOf, zOf_int, std_isI, isI_int, std_getL, std_nmul, std_sOf, sOf_str, std_isS, isS_str, std_fadd, std_fsub, std_fav, std_fsv, std_feq, std_fne, std_flt, std_fle, std_fgt, std_fge, std_fOf, std_fTo, std_fTv, Int.ofNat_eq_natCast, Int.toNat_natCast, isRow_V, lstOf_V, isRow_T, lstOf_T] at *
           have hq : decide ((i : Int) < (n0 : Int)) = true := by assumption
           have := of_decide_eq_true hq
           omega)
        | (subst hA; simp [std_add, std_sub, std_mul, std_quo, std_rem, std_band, std_bor, std_bxor, std_shl, std_shr, std_eq, std_ne, std_lt, std_le, std_conv, std_not, std_beq, std_bne, std_ite, std_want, std_and2, std_sadd, std_seq, std_sne, std_slt, std_sle, std_sgt, std_sge, std_slen, std_sget, std_scut, std_ofNat, std_toNat, std_nsub, std_nadd, std_lenOf, std_nz, std_nneg, std_inb, std_upto, std_slt63, std_grow, std_imp, std_impN, std_tr, std_tb, std_ti, std_ts, std_tn, std_tp, std_nmin, std_makes, std_room, std_zeros, std_nilq, std_notq, std_eqi, std_eqn, std_eqb, std_eqs, std_eqv, std_cat, std_lst, std_rset, std_rcopy, std_shift, std_eqr, std_strOf, std_bytesOf, std_isB, std_zOf, zOf_int, std_isI, isI_int, std_getL, std_nmul, std_sOf, sOf_str, std_isS, isS_str, std_fadd, std_fsub, std_fav, std_fsv, std_feq, std_fne, std_flt, std_fle, std_fgt, std_fge, std_fOf, std_fTo, std_fTv]; done)
        | trace_state
theorem flat_snoc {T : Tbl} {i : Nat} (hi : i < T.length) : (T.take (i + 1)).flatten = (T.take i).flatten ++ T.getD i [] := by
  rw [← take_snoc (d := []) hi, List.flatten_append]
  simp
theorem flat_len (T : Tbl) : T.flatten.length = cnt T := by unfold cnt; rw [List.length_flatten]
theorem good_together (T : Tbl) (hT : T.length ≤ 1000000) (hTi : ∀ i, (T.getD i []).length ≤ 1000000) (hc0 : cnt T ≤ 1000000) : GoodP Tryd.prog gl0 21 [rowS eEs [] 1 std fun _ => T] (rCloneE std fun _ => T.flatten) := by
  refine fn_sound' (T := seatT) (G := noC) (X := noX) seatT_ok noC_ok noX_ok noI_ok mixed Tryd.func21 (.fresh 37 8) (fun A => [rowS eEs [] 1 A fun _ => T]) (fun A => rCloneE A fun _ => T.flatten) fun A hA => ?_
  cbv
  repeat' (first | with_reducible exact True.intro | with_reducible exact dr_ok hA (by kernel_rfl) | with_reducible refine And.intro ?_ ?_ | (intro hc; cbv))
  refine ⟨⟨{p : Nat × List Ent // p.1 ≤ T.length ∧ p.2 = (T.take p.1).flatten}, fun b p => [(3, .own b), (8, .int .i64 (p.1.1 : Nat))], fun b p => [(b, .row 37 8 (A.tn fun _ => p.1.2.length) (rowF eE E0 A fun _ => p.1.2))], fun p => T.length - p.1.1, true⟩, ⟨⟨(0, []), Nat.zero_le _, rfl⟩, ?_⟩, ?_⟩
  · cbv
    subst hA
    simp [-List.getD_eq_getElem?_getD, std_add, std_sub, std_mul, std_quo, std_rem, std_band, std_bor, std_bxor, std_shl, std_shr, std_eq, std_ne, std_lt, std_le, std_conv, std_not, std_beq, std_bne, std_ite, std_want, std_and2, std_sadd, std_seq, std_sne, std_slt, std_sle, std_sgt, std_sge, std_slen, std_sget, std_scut, std_ofNat, std_toNat, std_nsub, std_nadd, std_lenOf, std_nz, std_nneg, std_inb, std_upto, std_slt63, std_grow, std_imp, std_impN, std_tr, std_tb, std_ti, std_ts, std_tn, std_tp, std_nmin, std_makes, std_room, std_zeros, std_nilq, std_notq, std_eqi, std_eqn, std_eqb, std_eqs, std_eqv, std_cat, std_lst, std_rset, std_rcopy, std_shift, std_eqr, std_strOf, std_bytesOf, std_isB, std_zOf, zOf_int, std_isI, isI_int, std_getL, std_nmul, std_sOf, sOf_str, std_isS, isS_str, std_fadd, std_fsub, std_fav, std_fsv, std_feq, std_fne, std_flt, std_fle, std_fgt, std_fge, std_fOf, std_fTo, std_fTv]
  · rintro ⟨⟨i, M⟩, hx⟩
    have hi : i ≤ T.length := hx.1
    have hM : M = (T.take i).flatten := hx.2
    have hTl := hTi i
    have hMl : M.length = cnt (T.take i) := by rw [hM, flat_len]
    have hcl := cnt_take T i
    rcases Nat.lt_or_ge i T.length with hlt | hge
    · obtain ⟨i', hi'⟩ : ∃ i', i' = i + 1 := ⟨_, rfl⟩
      obtain ⟨M', hM'⟩ : ∃ M', M' = M ++ T.getD i [] := ⟨_, rfl⟩
      have hMM : M' = (T.take i').flatten := by rw [hM', hi', flat_snoc hlt, hM]
      cbv
      repeat' (first | with_reducible exact True.intro | with_reducible exact dr_ok hA (by kernel_rfl) | with_reducible refine And.intro ?_ ?_ | (intro hc; cbv))
      all_goals first
        | (fail_if_success (refine Exists.intro ?_ ?_)
           subst hA
           simp only [std_add, std_sub, std_mul, std_quo, std_rem, std_band, std_bor, std_bxor, std_shl, std_shr, std_eq, std_ne, std_lt, std_le, std_conv, std_not, std_beq, std_bne, std_ite, std_want, std_and2, std_sadd, std_seq, std_sne, std_slt, std_sle, std_sgt, std_sge, std_slen, std_sget, std_scut, std_ofNat, std_toNat, std_nsub, std_nadd, std_lenOf, std_nz, std_nneg, std_inb, std_upto, std_slt63, std_grow, std_imp, std_impN, std_tr, std_tb, std_ti, std_ts, std_tn, std_tp, std_nmin, std_makes, std_room, std_zeros, std_nilq, std_notq, std_eqi, std_eqn, std_eqb, std_eqs, std_eqv, std_cat, std_lst, std_rset, std_rcopy, std_shift, std_eqr, std_strOf, std_bytesOf, std_isB, std_zOf, zOf_int, std_isI, isI_int, std_getL, std_nmul, std_sOf, sOf_str, std_isS, isS_str, std_fadd, std_fsub, std_fav, std_fsv, std_feq, std_fne, std_flt, std_fle, std_fgt, std_fge, std_fOf, std_fTo, std_fTv, Int.ofNat_eq_natCast, Int.toNat_natCast, isRow_V, lstOf_V, isRow_T, lstOf_T] at *
           first
             | (constructor <;> omega)
             | omega)
        | (exfalso
           subst hA
           simp only [std_add, std_sub, std_mul, std_quo, std_rem, std_band, std_bor, std_bxor, std_shl, std_shr, std_eq, std_ne, std_lt, std_le, std_conv, std_not, std_beq, std_bne, std_ite, std_want, std_and2, std_sadd, std_seq, std_sne, std_slt, std_sle, std_sgt, std_sge, std_slen, std_sget, std_scut, std_ofNat, std_toNat, std_nsub, std_nadd, std_lenOf, std_nz, std_nneg, std_inb, std_upto, std_slt63, std_grow, std_imp, std_impN, std_tr, std_tb, std_ti, std_ts, std_tn, std_tp, std_nmin, std_makes, std_room, std_zeros, std_nilq, std_notq, std_eqi, std_eqn, std_eqb, std_eqs, std_eqv, std_cat, std_lst, std_rset, std_rcopy, std_shift, std_eqr, std_strOf, std_bytesOf, std_isB, std_zOf, zOf_int, std_isI, isI_int, std_getL, std_nmul, std_sOf, sOf_str, std_isS, isS_str, std_fadd, std_fsub, std_fav, std_fsv, std_feq, std_fne, std_flt, std_fle, std_fgt, std_fge, std_fOf, std_fTo, std_fTv, Int.ofNat_eq_natCast, Int.toNat_natCast, isRow_V, lstOf_V, isRow_T, lstOf_T] at *
           have := of_decide_eq_false hc
           omega)
        | (refine ⟨⟨(i', M'), by omega, hMM⟩, ?_, show T.length - i' < T.length - i by omega⟩
           cbv
           subst hA
           simp [-List.getD_eq_getElem?_getD, std_add, std_sub, std_mul, std_quo, std_rem, std_band, std_bor, std_bxor, std_shl, std_shr, std_eq, std_ne, std_lt, std_le, std_conv, std_not, std_beq, std_bne, std_ite, std_want, std_and2, std_sadd, std_seq, std_sne, std_slt, std_sle, std_sgt, std_sge, std_slen, std_sget, std_scut, std_ofNat, std_toNat, std_nsub, std_nadd, std_lenOf, std_nz, std_nneg, std_inb, std_upto, std_slt63, std_grow, std_imp, std_impN, std_tr, std_tb, std_ti, std_ts, std_tn, std_tp, std_nmin, std_makes, std_room, std_zeros, std_nilq, std_notq, std_eqi, std_eqn, std_eqb, std_eqs, std_eqv, std_cat, std_lst, std_rset, std_rcopy, std_shift, std_eqr, std_strOf, std_bytesOf, std_isB, std_zOf, zOf_int, std_isI, isI_int, std_getL, std_nmul, std_sOf, sOf_str, std_isS, isS_str, std_fadd, std_fsub, std_fav, std_fsv, std_feq, std_fne, std_flt, std_fle, std_fgt, std_fge, std_fOf, std_fTo, std_fTv]
           refine ⟨w_succ' hi' (by omega), ?_, ?_⟩
           · rw [hM']; simp
           · exact eqr_of ((Reps.lit M).cat (Reps.lit (T.getD i []))) (by rw [hM']; simp) hM'.symm)
        | trace_state
    · have hie : i = T.length := by omega
      rw [hie, List.take_length] at hM
      cbv
      repeat' (first | with_reducible exact True.intro | with_reducible exact dr_ok hA (by kernel_rfl) | with_reducible refine And.intro ?_ ?_ | (intro hc; cbv))
      all_goals first
        | (exfalso
           subst hA
           simp only [std_add, std_sub, std_mul, std_quo, std_rem, std_band, std_bor, std_bxor, std_shl, std_shr, std_eq, std_ne, std_lt, std_le, std_conv, std_not, std_beq, std_bne, std_ite, std_want, std_and2, std_sadd, std_seq, std_sne, std_slt, std_sle, std_sgt, std_sge, std_slen, std_sget, std_scut, std_ofNat, std_toNat, std_nsub, std_nadd, std_lenOf, std_nz, std_nneg, std_inb, std_upto, std_slt63, std_grow, std_imp, std_impN, std_tr, std_tb, std_ti, std_ts, std_tn, std_tp, std_nmin, std_makes, std_room, std_zeros, std_nilq, std_notq, std_eqi, std_eqn, std_eqb, std_eqs, std_eqv, std_cat, std_lst, std_rset, std_rcopy, std_shift, std_eqr, std_strOf, std_bytesOf, std_isB, std_zOf, zOf_int, std_isI, isI_int, std_getL, std_nmul, std_sOf, sOf_str, std_isS, isS_str, std_fadd, std_fsub, std_fav, std_fsv, std_feq, std_fne, std_flt, std_fle, std_fgt, std_fge, std_fOf, std_fTo, std_fTv, Int.ofNat_eq_natCast, Int.toNat_natCast, isRow_V, lstOf_V, isRow_T, lstOf_T] at *
           have hq : decide ((i : Int) < (T.length : Int)) = true := by assumption
           have := of_decide_eq_true hq
           omega)
        | (subst hA
           simp only [std_add, std_sub, std_mul, std_quo, std_rem, std_band, std_bor, std_bxor, std_shl, std_shr, std_eq, std_ne, std_lt, std_le, std_conv, std_not, std_beq, std_bne, std_ite, std_want, std_and2, std_sadd, std_seq, std_sne, std_slt, std_sle, std_sgt, std_sge, std_slen, std_sget, std_scut, std_ofNat, std_toNat, std_nsub, std_nadd, std_lenOf, std_nz, std_nneg, std_inb, std_upto, std_slt63, std_grow, std_imp, std_impN, std_tr, std_tb, std_ti, std_ts, std_tn, std_tp, std_nmin, std_makes, std_room, std_zeros, std_nilq, std_notq, std_eqi, std_eqn, std_eqb, std_eqs, std_eqv, std_cat, std_lst, std_rset, std_rcopy, std_shift, std_eqr, std_strOf, std_bytesOf, std_isB, std_zOf, zOf_int, std_isI, isI_int, std_getL, std_nmul, std_sOf, sOf_str, std_isS, isS_str, std_fadd, std_fsub, std_fav, std_fsv, std_feq, std_fne, std_flt, std_fle, std_fgt, std_fge, std_fOf, std_fTo, std_fTv]
           rw [hM]
           first
             | done
             | exact (Reps.lit _).eqr)
        | trace_state
noncomputable def c_together : Ct := fun A args => match args with
  | [.slc n 1 f] => some (some (A.tp fun _ => isRow eEs [] 1 n f ∧ n ≤ 1000000 ∧ (∀ i, ((lstOf eEs [] 1 n f).getD i []).length ≤ 1000000) ∧ cnt (lstOf eEs [] 1 n f) ≤ 1000000), rCloneE A fun _ => (lstOf eEs [] 1 n f).flatten)
  | _ => none
noncomputable def c_fTable : Ct := fun A args => match args with
  | [.agg [.int .i64 m, .slc n 1 f]] => some (some (A.tp fun _ => isRow eEs [] 1 n f ∧ tbQ (lstOf eEs [] 1 n f)), .agg [.int .i64 m, rCloneT A fun _ => lstOf eEs [] 1 n f])
  | _ => none
noncomputable def gv4 : Ar → Pu := addC 21 c_together (addC 26 c_fTable (gv3))
theorem gv4_ok : PuOk Tryd.prog gl0 (gv4 std) := by
  refine addC_ok (addC_ok (gv3_ok) ⟨_, Tryd.func26, rfl, by decide⟩ ?_) ⟨_, Tryd.func21, rfl, by decide⟩ ?_
  · intro args p r h hp
    unfold c_fTable at h
    split at h <;> cases h
    exact good_sv (good_fTable _ _ hp.2) ⟨⟨_, rfl, rfl, hp.1.sv, trivial⟩, trivial⟩
  · intro args p r h hp
    unfold c_together at h
    split at h <;> cases h
    exact good_sv (good_together _ (by rw [lstOf_length hp.1]; exact hp.2.1) hp.2.2.1 hp.2.2.2) ⟨hp.1.sv, trivial⟩
end Go.Vd

set_option linter.unusedVariables false
set_option linter.unusedSimpArgs false
set_option maxRecDepth 100000
set_option maxHeartbeats 8000000
namespace Go.Vd
open Go.Proofs
/-- slices.SortFunc of entries by their keys. -/
noncomputable def srtX : Ar → Xt := fun A => { meth := fun _ _ => none, sl := [22], wt := fun f e k n g rest => bif Nat.beq f 22 && (Nat.beq e 37 && Nat.beq k 8) then (match rest with
  | [.clo c []] => bif Nat.beq c 23 then some (some (A.tp fun _ => isRow eE E0 8 n g ∧ n ≤ 1000000), n, rowF eE E0 A fun _ => srtE (lstOf eE E0 8 n g)) else none
  | _ => none) else none }
theorem srtX_ok : XtOk Tryd.prog gl0 (srtX std) := by
  refine ⟨(fun t name f h => by cases h), ?_⟩
  intro f e k n g rest p n' g' hw hp
  unfold srtX at hw
  simp only at hw
  cases hb : (Nat.beq f 22 && (Nat.beq e 37 && Nat.beq k 8)) <;> rw [hb] at hw <;> simp only [cond_true, cond_false, reduceCtorEq] at hw
  simp only [Bool.and_eq_true] at hb
  obtain rfl := Nat.eq_of_beq_eq_true hb.1
  obtain rfl := Nat.eq_of_beq_eq_true hb.2.1
  obtain rfl := Nat.eq_of_beq_eq_true hb.2.2
  split at hw
  · rename_i c
    cases hb2 : Nat.beq c 23 <;> rw [hb2] at hw <;> simp only [cond_true, cond_false, reduceCtorEq, Option.some.injEq, Prod.mk.injEq] at hw
    obtain rfl := Nat.eq_of_beq_eq_true hb2
    obtain ⟨rfl, rfl, rfl⟩ := hw
    refine ⟨⟨_, Tryd.func22, rfl, by decide⟩, ?_⟩
    have h2 := sort_ok gl0 n g hp.1 hp.2
    rw [show inW 22 (srtX std).sl = true from rfl]
    exact h2
  · cases hw
noncomputable def allT (m : Int) (T : Tbl) : List Ent := if tbR m T = true then srtE T.flatten else []
theorem all_y {m : Int} {T : Tbl} (h : tbR m T = true) : allT m T = srtE T.flatten := by unfold allT; rw [if_pos h]
theorem all_n {m : Int} {T : Tbl} (h : tbR m T = false) : allT m T = [] := by unfold allT; rw [h]; rfl
theorem tbR_cnt {m : Int} {T : Tbl} (h : tbR m T = true) : cnt T ≤ 128 ∧ (cnt T : Int) ≤ m ∧ T.length ≤ 16 ∧ 1 ≤ T.length := by
  unfold tbR szR at h
  simp only [Bool.and_eq_true, decide_eq_true_eq] at h
  omega
attribute [local irreducible] vc
theorem good_tAll (m : Int) (T : Tbl) (hQ : tbQ T) : GoodP Tryd.prog gl0 8 [.agg [.int .i64 m, rowS eEs [] 1 std fun _ => T]] (rowS eE E0 8 std fun _ => allT m T) := by
  refine fn_sound' (T := seatT) (G := gv4) (X := srtX) seatT_ok gv4_ok srtX_ok noI_ok mixed Tryd.func8 (.none) (fun A => [.agg [.int .i64 m, rowS eEs [] 1 A fun _ => T]]) (fun A => rowS eE E0 8 A fun _ => allT m T) fun A hA => ?_
  cbv
  repeat' (first | with_reducible exact True.intro | with_reducible exact dr_ok hA (by kernel_rfl) | with_reducible refine And.intro ?_ ?_ | (intro hc; cbv))
  all_goals (subst hA; simp only [std_add, std_sub, std_mul, std_quo, std_rem, std_band, std_bor, std_bxor, std_shl, std_shr, std_eq, std_ne, std_lt, std_le, std_conv, std_not, std_beq, std_bne, std_ite, std_want, std_and2, std_sadd, std_seq, std_sne, std_slt, std_sle, std_sgt, std_sge, std_slen, std_sget, std_scut, std_ofNat, std_toNat, std_nsub, std_nadd, std_lenOf, std_nz, std_nneg, std_inb, std_upto, std_slt63, std_grow, std_imp, std_impN, std_tr, std_tb, std_ti, std_ts, std_tn, std_tp, std_nmin, std_makes, std_room, std_zeros, std_nilq, std_notq, std_eqi, std_eqn, std_eqb, std_eqs, std_eqv, std_cat, std_lst, std_rset, std_rcopy, std_shift, std_eqr, std_strOf, std_bytesOf, std_isB, std_zOf, zOf_int, std_isI, isI_int, std_getL, std_nmul, std_sOf, sOf_str, std_isS, isS_str, std_fadd, std_fsub, std_fav, std_fsv, std_feq, std_fne, std_flt, std_fle, std_fgt, std_fge, std_fOf, std_fTo, std_fTv, isRow_T, lstOf_T, isRow_V, lstOf_V] at *)
  all_goals first
    | exact ⟨trivial, hQ⟩
    | (have h1 := all_n (nb_f hc)
       first
         | (rw [h1]; rfl)
         | (rw [h1]; simp))
    | (have hR := nb_t hc
       have h1 := all_y hR
       have h2 := tbR_cnt hR
       have h3 := flat_len T
       have h4 := (srtE_sorts T.flatten).1
       first
         | exact ⟨trivial, hQ.1, hQ.2.1, by omega⟩
         | exact ⟨trivial, by omega⟩
         | (rw [h1, h4]; done)
         | (rw [h1, h4]; exact (Reps.lit _).eqr' h4.symm)
         | (rw [h1]; exact (Reps.lit _).eqr' h4)
         | trace_state)
    | trace_state
end Go.Vd

set_option linter.unusedVariables false
set_option linter.unusedSimpArgs false
set_option maxRecDepth 100000
set_option maxHeartbeats 8000000
namespace Go.Vd
open Go.Proofs
noncomputable def c_tAll : Ct := fun A args => match args with
  | [.agg [.int .i64 m, .slc n 1 f]] => some (some (A.tp fun _ => isRow eEs [] 1 n f ∧ tbQ (lstOf eEs [] 1 n f)), rowS eE E0 8 A fun _ => allT m (lstOf eEs [] 1 n f))
  | _ => none
noncomputable def gv5 : Ar → Pu := addC 8 c_tAll (gv4)
theorem gv5_ok : PuOk Tryd.prog gl0 (gv5 std) := by
  refine addC_ok (gv4_ok) ⟨_, Tryd.func8, rfl, by decide⟩ ?_
  · intro args p r h hp
    unfold c_tAll at h
    split at h <;> cases h
    exact good_sv (good_tAll _ _ hp.2) ⟨⟨_, rfl, rfl, hp.1.sv, trivial⟩, trivial⟩
theorem shardI_in (s : Int) (r : List UInt8) (n : Int) : shardI s r n = -1 ∨ (keyOk s r = true ∧ 0 ≤ shardI s r n ∧ shardI s r n < n) := by
  unfold shardI
  by_cases h : keyOk s r = true ∧ 1 ≤ n ∧ n ≤ 16
  · rw [if_pos h]
    right
    refine ⟨h.1, Int.natCast_nonneg _, ?_⟩
    have := Nat.mod_lt (fnv (decs 6 s.toNat ++ r)) (show 0 < n.toNat by omega)
    omega
  · rw [if_neg h]; exact .inl rfl
def shi (T : Tbl) (s : Int) (r : List UInt8) : Int := shardI s r (T.length : Int)
def shl (T : Tbl) (s : Int) (r : List UInt8) : List Ent := T.getD (shi T s r).toNat []
def lkE (T : Tbl) (s : Int) (r : List UInt8) : Ent := if shi T s r < 0 then E0 else fnd (shl T s r) s r
def lkB (T : Tbl) (s : Int) (r : List UInt8) : Bool := if shi T s r < 0 then false else has (shl T s r) s r
theorem lk_n {T : Tbl} {s : Int} {r : List UInt8} (h : shi T s r < 0) : lkE T s r = E0 ∧ lkB T s r = false := by unfold lkE lkB; rw [if_pos h, if_pos h]; exact ⟨rfl, rfl⟩
theorem lk_y {T : Tbl} {s : Int} {r : List UInt8} (h : ¬shi T s r < 0) : lkE T s r = fnd (shl T s r) s r ∧ lkB T s r = has (shl T s r) s r := by unfold lkE lkB; rw [if_neg h, if_neg h]; exact ⟨rfl, rfl⟩
attribute [local irreducible] vc
theorem good_tLook (m : Int) (T : Tbl) (s : Int) (r : List UInt8) (hQ : tbQ T) (hs : 0 ≤ s ∧ s < 4294967296) : GoodP Tryd.prog gl0 25 [.agg [.int .i64 m, rowS eEs [] 1 std fun _ => T], .agg [.int .u32 s, .str r]] (.tup [.int .i64 (std.ti fun _ => shi T s r), entS std fun _ => lkE T s r, .bool (std.tb fun _ => lkB T s r)]) := by
  refine fn_sound' (T := seatT) (G := gv5) (X := noX) seatT_ok gv5_ok noX_ok noI_ok mixed Tryd.func25 (.one) (fun A => [.agg [.int .i64 m, rowS eEs [] 1 A fun _ => T], .agg [.int .u32 s, .str r]]) (fun A => .tup [.int .i64 (A.ti fun _ => shi T s r), entS A fun _ => lkE T s r, .bool (A.tb fun _ => lkB T s r)]) fun A hA => ?_
  have hsh : shardI s r (T.length : Int) = shi T s r := rfl
  have hin := shardI_in s r (T.length : Int)
  rw [hsh] at hin
  have hin2 := hin.imp_right And.right
  have hin3 : ¬shi T s r < 0 → 0 ≤ shi T s r ∧ shi T s r < (T.length : Int) := fun h => by omega
  clear hin hin2
  have hTi := hQ.2.1 (shi T s r).toNat
  cbv
  repeat' (first | with_reducible exact True.intro | with_reducible exact dr_ok hA (by kernel_rfl) | with_reducible refine And.intro ?_ ?_ | (intro hc; cbv))
  all_goals (subst hA; simp only [std_add, std_sub, std_mul, std_quo, std_rem, std_band, std_bor, std_bxor, std_shl, std_shr, std_eq, std_ne, std_lt, std_le, std_conv, std_not, std_beq, std_bne, std_ite, std_want, std_and2, std_sadd, std_seq, std_sne, std_slt, std_sle, std_sgt, std_sge, std_slen, std_sget, std_scut, std_ofNat, std_toNat, std_nsub, std_nadd, std_lenOf, std_nz, std_nneg, std_inb, std_upto, std_slt63, std_grow, std_imp, std_impN, std_tr, std_tb, std_ti, std_ts, std_tn, std_tp, std_nmin, std_makes, std_room, std_zeros, std_nilq, std_notq, std_eqi, std_eqn, std_eqb, std_eqs, std_eqv, std_cat, std_lst, std_rset, std_rcopy, std_shift, std_eqr, std_strOf, std_bytesOf, std_isB, std_zOf, zOf_int, std_isI, isI_int, std_getL, std_nmul, std_sOf, sOf_str, std_isS, isS_str, std_fadd, std_fsub, std_fav, std_fsv, std_feq, std_fne, std_flt, std_fle, std_fgt, std_fge, std_fOf, std_fTo, std_fTv, isRow_T, lstOf_T, isRow_V, lstOf_V, hsh] at *)
  all_goals first
    | exact hs
    | (have h1 := of_decide_eq_true hc
       have h2 := lk_n h1
       first
         | (rw [h2.1]; rfl)
         | exact h2.2.symm)
    | (have h1 := of_decide_eq_false hc
       have h2 := lk_y h1
       unfold shl at h2
       first
         | exact hin3 h1
         | exact ⟨trivial, hTi⟩
         | (rw [h2.1]; done)
         | exact h2.2.symm
         | trace_state)
    | trace_state
noncomputable def c_tLook : Ct := fun A args => match args with
  | [.agg [.int .i64 m, .slc n 1 f], .agg [.int .u32 s, .str r]] => some (some (A.tp fun _ => (isRow eEs [] 1 n f ∧ tbQ (lstOf eEs [] 1 n f)) ∧ 0 ≤ s ∧ s < 4294967296), .tup [.int .i64 (A.ti fun _ => shi (lstOf eEs [] 1 n f) s r), entS A fun _ => lkE (lstOf eEs [] 1 n f) s r, .bool (A.tb fun _ => lkB (lstOf eEs [] 1 n f) s r)])
  | _ => none
noncomputable def gv6 : Ar → Pu := addC 25 c_tLook (gv5)
theorem gv6_ok : PuOk Tryd.prog gl0 (gv6 std) := by
  refine addC_ok (gv5_ok) ⟨_, Tryd.func25, rfl, by decide⟩ ?_
  · intro args p r h hp
    unfold c_tLook at h
    split at h <;> cases h
    exact good_sv (good_tLook _ _ _ _ hp.1.2 hp.2) ⟨⟨_, rfl, rfl, hp.1.1.sv, trivial⟩, ⟨_, rfl, rfl, rfl, trivial⟩, trivial⟩
def tFnd (m : Int) (T : Tbl) (s : Int) (r : List UInt8) : Ent := if tbR m T = true then lkE T s r else E0
def tHas (m : Int) (T : Tbl) (s : Int) (r : List UInt8) : Bool := if tbR m T = true then lkB T s r else false
theorem tf_y {m : Int} {T : Tbl} {s : Int} {r : List UInt8} (h : tbR m T = true) : tFnd m T s r = lkE T s r ∧ tHas m T s r = lkB T s r := by unfold tFnd tHas; rw [if_pos h, if_pos h]; exact ⟨rfl, rfl⟩
theorem tf_n {m : Int} {T : Tbl} {s : Int} {r : List UInt8} (h : tbR m T = false) : tFnd m T s r = E0 ∧ tHas m T s r = false := by unfold tFnd tHas; rw [h]; exact ⟨rfl, rfl⟩
theorem good_tFind (m : Int) (T : Tbl) (s : Int) (r : List UInt8) (hQ : tbQ T) (hs : 0 ≤ s ∧ s < 4294967296) : GoodP Tryd.prog gl0 9 [.agg [.int .i64 m, rowS eEs [] 1 std fun _ => T], .agg [.int .u32 s, .str r]] (.tup [entS std fun _ => tFnd m T s r, .bool (std.tb fun _ => tHas m T s r)]) := by
  refine fn_sound' (T := seatT) (G := gv6) (X := noX) seatT_ok gv6_ok noX_ok noI_ok mixed Tryd.func9 (.one) (fun A => [.agg [.int .i64 m, rowS eEs [] 1 A fun _ => T], .agg [.int .u32 s, .str r]]) (fun A => .tup [entS A fun _ => tFnd m T s r, .bool (A.tb fun _ => tHas m T s r)]) fun A hA => ?_
  cbv
  repeat' (first | with_reducible exact True.intro | with_reducible exact dr_ok hA (by kernel_rfl) | with_reducible refine And.intro ?_ ?_ | (intro hc; cbv))
  all_goals (subst hA; simp only [std_add, std_sub, std_mul, std_quo, std_rem, std_band, std_bor, std_bxor, std_shl, std_shr, std_eq, std_ne, std_lt, std_le, std_conv, std_not, std_beq, std_bne, std_ite, std_want, std_and2, std_sadd, std_seq, std_sne, std_slt, std_sle, std_sgt, std_sge, std_slen, std_sget, std_scut, std_ofNat, std_toNat, std_nsub, std_nadd, std_lenOf, std_nz, std_nneg, std_inb, std_upto, std_slt63, std_grow, std_imp, std_impN, std_tr, std_tb, std_ti, std_ts, std_tn, std_tp, std_nmin, std_makes, std_room, std_zeros, std_nilq, std_notq, std_eqi, std_eqn, std_eqb, std_eqs, std_eqv, std_cat, std_lst, std_rset, std_rcopy, std_shift, std_eqr, std_strOf, std_bytesOf, std_isB, std_zOf, zOf_int, std_isI, isI_int, std_getL, std_nmul, std_sOf, sOf_str, std_isS, isS_str, std_fadd, std_fsub, std_fav, std_fsv, std_feq, std_fne, std_flt, std_fle, std_fgt, std_fge, std_fOf, std_fTo, std_fTv, isRow_T, lstOf_T, isRow_V, lstOf_V] at *)
  all_goals first
    | exact ⟨trivial, hQ⟩
    | exact ⟨⟨trivial, hQ⟩, hs⟩
    | (have h2 := tf_n (s := s) (r := r) (nb_f hc)
       first
         | (rw [h2.1]; rfl)
         | exact h2.2.symm)
    | (have h2 := tf_y (s := s) (r := r) (nb_t hc)
       first
         | (rw [h2.1]; done)
         | exact h2.2.symm
         | trace_state)
    | trace_state
noncomputable def c_tFind : Ct := fun A args => match args with
  | [.agg [.int .i64 m, .slc n 1 f], .agg [.int .u32 s, .str r]] => some (some (A.tp fun _ => (isRow eEs [] 1 n f ∧ tbQ (lstOf eEs [] 1 n f)) ∧ 0 ≤ s ∧ s < 4294967296), .tup [entS A fun _ => tFnd m (lstOf eEs [] 1 n f) s r, .bool (A.tb fun _ => tHas m (lstOf eEs [] 1 n f) s r)])
  | _ => none
noncomputable def gv7 : Ar → Pu := addC 9 c_tFind (gv6)
theorem gv7_ok : PuOk Tryd.prog gl0 (gv7 std) := by
  refine addC_ok (gv6_ok) ⟨_, Tryd.func9, rfl, by decide⟩ ?_
  · intro args p r h hp
    unfold c_tFind at h
    split at h <;> cases h
    exact good_sv (good_tFind _ _ _ _ hp.1.2 hp.2) ⟨⟨_, rfl, rfl, hp.1.1.sv, trivial⟩, ⟨_, rfl, rfl, rfl, trivial⟩, trivial⟩
end Go.Vd

set_option linter.unusedVariables false
set_option linter.unusedSimpArgs false
set_option maxRecDepth 100000
set_option maxHeartbeats 8000000
namespace Go.Vd
open Go.Proofs
theorem eR_key {e : Ent} (h : eR e = true) : keyOk e.s e.r = true := by
  unfold eR at h
  simp only [Bool.and_eq_true, decide_eq_true_eq] at h
  exact h.1
def okE (m : Int) (T : Tbl) (e : Ent) : Bool := bif tbR m T then eR e else false
theorem okE_t {m : Int} {T : Tbl} {e : Ent} (h : okE m T e = true) : tbR m T = true ∧ eR e = true := by
  unfold okE at h
  cases h1 : tbR m T <;> rw [h1] at h
  · cases h
  · exact ⟨rfl, h⟩
theorem shi_in {m : Int} {T : Tbl} {e : Ent} (h : okE m T e = true) : 0 ≤ shi T e.s e.r ∧ shi T e.s e.r < (T.length : Int) := by
  have h1 := okE_t h
  have h2 := tbR_cnt h1.1
  have h3 := eR_key h1.2
  unfold shi shardI
  rw [if_pos ⟨h3, by omega, by omega⟩]
  have := Nat.mod_lt (fnv (decs 6 e.s.toNat ++ e.r)) (show 0 < ((T.length : Nat) : Int).toNat by omega)
  omega
def tInsT (m : Int) (T : Tbl) (e : Ent) : Tbl := if okE m T e = true then (if lkB T e.s e.r = true then T else if m ≤ (cnt T : Int) then T else T.set (shi T e.s e.r).toNat (insL (shl T e.s e.r) e)) else T
def tInsC (m : Int) (T : Tbl) (e : Ent) : Int := if okE m T e = true then (if lkB T e.s e.r = true then 6 else if m ≤ (cnt T : Int) then 7 else insC (shl T e.s e.r) e) else 1
theorem tIns_1 {m : Int} {T : Tbl} {e : Ent} (h : okE m T e = false) : tInsT m T e = T ∧ tInsC m T e = 1 := by unfold tInsT tInsC; rw [h]; exact ⟨rfl, rfl⟩
theorem tIns_6 {m : Int} {T : Tbl} {e : Ent} (h : okE m T e = true) (h1 : lkB T e.s e.r = true) : tInsT m T e = T ∧ tInsC m T e = 6 := by unfold tInsT tInsC; rw [if_pos h, if_pos h, if_pos h1, if_pos h1]; exact ⟨rfl, rfl⟩
theorem tIns_7 {m : Int} {T : Tbl} {e : Ent} (h : okE m T e = true) (h1 : lkB T e.s e.r = false) (h2 : m ≤ (cnt T : Int)) : tInsT m T e = T ∧ tInsC m T e = 7 := by unfold tInsT tInsC; rw [if_pos h, if_pos h, h1, if_pos h2, if_pos h2]; exact ⟨rfl, rfl⟩
theorem tIns_0 {m : Int} {T : Tbl} {e : Ent} (h : okE m T e = true) (h1 : lkB T e.s e.r = false) (h2 : ¬m ≤ (cnt T : Int)) : tInsT m T e = T.set (shi T e.s e.r).toNat (insL (shl T e.s e.r) e) ∧ tInsC m T e = insC (shl T e.s e.r) e := by unfold tInsT tInsC; rw [if_pos h, if_pos h, h1, if_neg h2, if_neg h2]; exact ⟨rfl, rfl⟩
attribute [local irreducible] vc
theorem good_tInsert (m : Int) (T : Tbl) (s st am tr ca : Int) (r pan code : List UInt8) (hQ : tbQ T) (hE : enQ ⟨s, r, st, pan, am, code, tr, ca⟩) : GoodP Tryd.prog gl0 10 [.agg [.int .i64 m, rowS eEs [] 1 std fun _ => T], .agg [.int .u32 s, .str r, .int .i64 st, .str pan, .int .u64 am, .str code, .int .i64 tr, .int .i64 ca]] (.tup [.agg [.int .i64 m, rowS eEs [] 1 std fun _ => tInsT m T ⟨s, r, st, pan, am, code, tr, ca⟩], .int .i64 (std.ti fun _ => tInsC m T ⟨s, r, st, pan, am, code, tr, ca⟩)]) := by
  refine fn_sound' (T := seatT) (G := gv7) (X := noX) seatT_ok gv7_ok noX_ok noI_ok mixed Tryd.func10 (.none) (fun A => [.agg [.int .i64 m, rowS eEs [] 1 A fun _ => T], .agg [.int .u32 s, .str r, .int .i64 st, .str pan, .int .u64 am, .str code, .int .i64 tr, .int .i64 ca]]) (fun A => .tup [.agg [.int .i64 m, rowS eEs [] 1 A fun _ => tInsT m T ⟨s, r, st, pan, am, code, tr, ca⟩], .int .i64 (A.ti fun _ => tInsC m T ⟨s, r, st, pan, am, code, tr, ca⟩)]) fun A hA => ?_
  obtain ⟨E, hEq⟩ : ∃ E : Ent, E = ⟨s, r, st, pan, am, code, tr, ca⟩ := ⟨_, rfl⟩
  rw [← hEq]
  have hok : (bif tbR m T then eR ⟨s, r, st, pan, am, code, tr, ca⟩ else false) = okE m T E := by rw [hEq]; rfl
  have eS : E.s = s := by rw [hEq]
  have eR' : E.r = r := by rw [hEq]
  have hT := hQ.1
  have hTi := hQ.2.1 (shi T s r).toNat
  have hTe := fun j => enQ_S (hQ.2.2 (shi T s r).toNat j)
  cbv
  repeat' (first | with_reducible exact True.intro | with_reducible exact dr_ok hA (by kernel_rfl) | with_reducible refine And.intro ?_ ?_ | (intro hc; cbv))
  all_goals (subst hA; simp only [std_add, std_sub, std_mul, std_quo, std_rem, std_band, std_bor, std_bxor, std_shl, std_shr, std_eq, std_ne, std_lt, std_le, std_conv, std_not, std_beq, std_bne, std_ite, std_want, std_and2, std_sadd, std_seq, std_sne, std_slt, std_sle, std_sgt, std_sge, std_slen, std_sget, std_scut, std_ofNat, std_toNat, std_nsub, std_nadd, std_lenOf, std_nz, std_nneg, std_inb, std_upto, std_slt63, std_grow, std_imp, std_impN, std_tr, std_tb, std_ti, std_ts, std_tn, std_tp, std_nmin, std_makes, std_room, std_zeros, std_nilq, std_notq, std_eqi, std_eqn, std_eqb, std_eqs, std_eqv, std_cat, std_lst, std_rset, std_rcopy, std_shift, std_eqr, std_strOf, std_bytesOf, std_isB, std_zOf, zOf_int, std_isI, isI_int, std_getL, std_nmul, std_sOf, sOf_str, std_isS, isS_str, std_fadd, std_fsub, std_fav, std_fsv, std_feq, std_fne, std_flt, std_fle, std_fgt, std_fge, std_fOf, std_fTo, std_fTv, isRow_T, lstOf_T, isRow_V, lstOf_V, hok] at *)
  all_goals first
    | done
    | exact ⟨trivial, hQ⟩
    | exact ⟨⟨trivial, hQ⟩, hE.1⟩
    | exact fun h => ⟨h, hE.2.2⟩
    | exact fun h => by rw [h]; rfl
    | (have h1 := tIns_1 (nb_f hc)
       first
         | (rw [h1.1]; done)
         | (rw [h1.1]; exact (Reps.lit _).eqr)
         | (rw [h1.2]; done))
    | (have hr0 : (!okE m T E) = false := by assumption
       have hr := nb_t hr0
       have hcn := tbR_cnt (okE_t hr).1
       have hin := shi_in hr
       rw [eS, eR'] at hin
       first
         | exact ⟨trivial, hT, by omega⟩
         | (have h2 : lkB T s r = true := by assumption
            have h1 := tIns_6 (e := E) hr (by rw [eS, eR']; exact h2)
            first
              | (rw [h1.1]; done)
              | (rw [h1.1]; exact (Reps.lit _).eqr)
              | (rw [h1.2]; done))
         | (have h2 : lkB T s r = false := by assumption
            have h3 := of_decide_eq_true hc
            have h1 := tIns_7 (e := E) hr (by rw [eS, eR']; exact h2) h3
            first
              | (rw [h1.1]; done)
              | (rw [h1.1]; exact (Reps.lit _).eqr)
              | (rw [h1.2]; done))
         | (have h2 : lkB T s r = false := by assumption
            have h3 := of_decide_eq_false hc
            have h1 := tIns_0 (e := E) hr (by rw [eS, eR']; exact h2) h3
            rw [eS, eR'] at h1
            unfold shl at h1
            have hcell := cell_eEs (x := insL (T.getD (shi T s r).toNat []) E) (Reps.lit (enc := eE) (d := E0) (k := 8) _)
            rw [hEq] at hcell
            first
              | exact hin
              | exact ⟨⟨trivial, hTi, hTe⟩, hE.2.2⟩
              | (rw [h1.1, List.length_set]; done)
              | (rw [h1.2, hEq]; done)
              | exact eqr_of ((Reps.lit T).rset' (i := (shi T s r).toNat) (by omega) _ rfl hcell) (by rw [h1.1, List.length_set]) (by rw [h1.1, hEq])
              | trace_state)
         | trace_state)
    | trace_state
noncomputable def c_tInsert : Ct := fun A args => match args with
  | [.agg [.int .i64 m, .slc n 1 f], .agg [.int .u32 s, .str r, .int .i64 st, .str pan, .int .u64 am, .str code, .int .i64 tr, .int .i64 ca]] => some (some (A.tp fun _ => (isRow eEs [] 1 n f ∧ tbQ (lstOf eEs [] 1 n f)) ∧ enQ ⟨s, r, st, pan, am, code, tr, ca⟩), .tup [.agg [.int .i64 m, rowS eEs [] 1 A fun _ => tInsT m (lstOf eEs [] 1 n f) ⟨s, r, st, pan, am, code, tr, ca⟩], .int .i64 (A.ti fun _ => tInsC m (lstOf eEs [] 1 n f) ⟨s, r, st, pan, am, code, tr, ca⟩)])
  | _ => none
def tSwT (m : Int) (T : Tbl) (z : Int) (e : Ent) : Tbl := if okE m T e = true then T.set (shi T e.s e.r).toNat (swL (shl T e.s e.r) z e) else T
def tSwC (m : Int) (T : Tbl) (z : Int) (e : Ent) : Int := if okE m T e = true then swC (shl T e.s e.r) z e else 1
theorem tSw_1 {m : Int} {T : Tbl} {z : Int} {e : Ent} (h : okE m T e = false) : tSwT m T z e = T ∧ tSwC m T z e = 1 := by unfold tSwT tSwC; rw [h]; exact ⟨rfl, rfl⟩
theorem tSw_0 {m : Int} {T : Tbl} {z : Int} {e : Ent} (h : okE m T e = true) : tSwT m T z e = T.set (shi T e.s e.r).toNat (swL (shl T e.s e.r) z e) ∧ tSwC m T z e = swC (shl T e.s e.r) z e := by unfold tSwT tSwC; rw [if_pos h, if_pos h]; exact ⟨rfl, rfl⟩
theorem good_tSwap (m : Int) (T : Tbl) (z s st am tr ca : Int) (r pan code : List UInt8) (hQ : tbQ T) (hE : enQ ⟨s, r, st, pan, am, code, tr, ca⟩) : GoodP Tryd.prog gl0 17 [.agg [.int .i64 m, rowS eEs [] 1 std fun _ => T], .int .i64 z, .agg [.int .u32 s, .str r, .int .i64 st, .str pan, .int .u64 am, .str code, .int .i64 tr, .int .i64 ca]] (.tup [.agg [.int .i64 m, rowS eEs [] 1 std fun _ => tSwT m T z ⟨s, r, st, pan, am, code, tr, ca⟩], .int .i64 (std.ti fun _ => tSwC m T z ⟨s, r, st, pan, am, code, tr, ca⟩)]) := by
  refine fn_sound' (T := seatT) (G := gv7) (X := noX) seatT_ok gv7_ok noX_ok noI_ok mixed Tryd.func17 (.none) (fun A => [.agg [.int .i64 m, rowS eEs [] 1 A fun _ => T], .int .i64 z, .agg [.int .u32 s, .str r, .int .i64 st, .str pan, .int .u64 am, .str code, .int .i64 tr, .int .i64 ca]]) (fun A => .tup [.agg [.int .i64 m, rowS eEs [] 1 A fun _ => tSwT m T z ⟨s, r, st, pan, am, code, tr, ca⟩], .int .i64 (A.ti fun _ => tSwC m T z ⟨s, r, st, pan, am, code, tr, ca⟩)]) fun A hA => ?_
  obtain ⟨E, hEq⟩ : ∃ E : Ent, E = ⟨s, r, st, pan, am, code, tr, ca⟩ := ⟨_, rfl⟩
  rw [← hEq]
  have hok : (bif tbR m T then eR ⟨s, r, st, pan, am, code, tr, ca⟩ else false) = okE m T E := by rw [hEq]; rfl
  have eS : E.s = s := by rw [hEq]
  have eR' : E.r = r := by rw [hEq]
  have hT := hQ.1
  have hsh : shardI s r (T.length : Int) = shi T s r := rfl
  have hTi := hQ.2.1 (shi T s r).toNat
  have hTe := fun j => enQ_S (hQ.2.2 (shi T s r).toNat j)
  cbv
  repeat' (first | with_reducible exact True.intro | with_reducible exact dr_ok hA (by kernel_rfl) | with_reducible refine And.intro ?_ ?_ | (intro hc; cbv))
  all_goals (subst hA; simp only [std_add, std_sub, std_mul, std_quo, std_rem, std_band, std_bor, std_bxor, std_shl, std_shr, std_eq, std_ne, std_lt, std_le, std_conv, std_not, std_beq, std_bne, std_ite, std_want, std_and2, std_sadd, std_seq, std_sne, std_slt, std_sle, std_sgt, std_sge, std_slen, std_sget, std_scut, std_ofNat, std_toNat, std_nsub, std_nadd, std_lenOf, std_nz, std_nneg, std_inb, std_upto, std_slt63, std_grow, std_imp, std_impN, std_tr, std_tb, std_ti, std_ts, std_tn, std_tp, std_nmin, std_makes, std_room, std_zeros, std_nilq, std_notq, std_eqi, std_eqn, std_eqb, std_eqs, std_eqv, std_cat, std_lst, std_rset, std_rcopy, std_shift, std_eqr, std_strOf, std_bytesOf, std_isB, std_zOf, zOf_int, std_isI, isI_int, std_getL, std_nmul, std_sOf, sOf_str, std_isS, isS_str, std_fadd, std_fsub, std_fav, std_fsv, std_feq, std_fne, std_flt, std_fle, std_fgt, std_fge, std_fOf, std_fTo, std_fTv, isRow_T, lstOf_T, isRow_V, lstOf_V, hok, hsh] at *)
  all_goals first
    | done
    | exact hE.1
    | exact ⟨trivial, hQ⟩
    | exact fun h => ⟨h, hE.2.2⟩
    | exact fun h => by rw [h]; rfl
    | (have h1 := tSw_1 (z := z) (nb_f hc)
       first
         | (rw [h1.1]; done)
         | (rw [h1.1]; exact (Reps.lit _).eqr)
         | (rw [h1.2]; done))
    | (have hr0 : (!okE m T E) = false := by assumption
       have hr := nb_t hr0
       have hcn := tbR_cnt (okE_t hr).1
       have hin := shi_in hr
       rw [eS, eR'] at hin
       have h1 := tSw_0 (z := z) hr
       rw [eS, eR'] at h1
       unfold shl at h1
       have hcell := cell_eEs (x := swL (T.getD (shi T s r).toNat []) z E) (Reps.lit (enc := eE) (d := E0) (k := 8) _)
       rw [hEq] at hcell
       first
         | exact hin
         | exact ⟨⟨trivial, hTi, hTe⟩, hE.2.2⟩
         | (rw [h1.1, List.length_set]; done)
         | (rw [h1.2, hEq]; done)
         | exact eqr_of ((Reps.lit T).rset' (i := (shi T s r).toNat) (by omega) _ rfl hcell) (by rw [h1.1, List.length_set]) (by rw [h1.1, hEq])
         | trace_state)
    | trace_state
noncomputable def c_tSwap : Ct := fun A args => match args with
  | [.agg [.int .i64 m, .slc n 1 f], .int .i64 z, .agg [.int .u32 s, .str r, .int .i64 st, .str pan, .int .u64 am, .str code, .int .i64 tr, .int .i64 ca]] => some (some (A.tp fun _ => (isRow eEs [] 1 n f ∧ tbQ (lstOf eEs [] 1 n f)) ∧ enQ ⟨s, r, st, pan, am, code, tr, ca⟩), .tup [.agg [.int .i64 m, rowS eEs [] 1 A fun _ => tSwT m (lstOf eEs [] 1 n f) z ⟨s, r, st, pan, am, code, tr, ca⟩], .int .i64 (A.ti fun _ => tSwC m (lstOf eEs [] 1 n f) z ⟨s, r, st, pan, am, code, tr, ca⟩)])
  | _ => none
def stW (z : Int) : Bool := bif z == 1 then true else z == 4
def tRtT (m : Int) (T : Tbl) (s : Int) (r : List UInt8) : Tbl := if tbR m T = true then (if lkB T s r = true then (if stW (lkE T s r).st = true then T else T.set (shi T s r).toNat (rmL (shl T s r) s r)) else T) else T
def tRtC (m : Int) (T : Tbl) (s : Int) (r : List UInt8) : Int := if tbR m T = true then (if lkB T s r = true then (if stW (lkE T s r).st = true then 8 else rmC (shl T s r) s r) else 5) else 1
theorem tRt_1 {m : Int} {T : Tbl} {s : Int} {r : List UInt8} (h : tbR m T = false) : tRtT m T s r = T ∧ tRtC m T s r = 1 := by unfold tRtT tRtC; rw [h]; exact ⟨rfl, rfl⟩
theorem tRt_5 {m : Int} {T : Tbl} {s : Int} {r : List UInt8} (h : tbR m T = true) (h1 : lkB T s r = false) : tRtT m T s r = T ∧ tRtC m T s r = 5 := by unfold tRtT tRtC; rw [if_pos h, if_pos h, h1]; exact ⟨rfl, rfl⟩
theorem tRt_8 {m : Int} {T : Tbl} {s : Int} {r : List UInt8} (h : tbR m T = true) (h1 : lkB T s r = true) (h2 : stW (lkE T s r).st = true) : tRtT m T s r = T ∧ tRtC m T s r = 8 := by unfold tRtT tRtC; rw [if_pos h, if_pos h, if_pos h1, if_pos h1, if_pos h2, if_pos h2]; exact ⟨rfl, rfl⟩
theorem tRt_0 {m : Int} {T : Tbl} {s : Int} {r : List UInt8} (h : tbR m T = true) (h1 : lkB T s r = true) (h2 : stW (lkE T s r).st = false) : tRtT m T s r = T.set (shi T s r).toNat (rmL (shl T s r) s r) ∧ tRtC m T s r = rmC (shl T s r) s r := by unfold tRtT tRtC; rw [if_pos h, if_pos h, if_pos h1, if_pos h1, h2]; exact ⟨rfl, rfl⟩
theorem lkB_in {T : Tbl} {s : Int} {r : List UInt8} (h : lkB T s r = true) : 0 ≤ shi T s r ∧ shi T s r < (T.length : Int) := by
  unfold lkB at h
  split at h
  · cases h
  · have := shardI_in s r (T.length : Int)
    have h2 : shi T s r = shardI s r (T.length : Int) := rfl
    rw [← h2] at this
    rcases this with h3 | h3
    · omega
    · exact h3.2
theorem good_tRetire (m : Int) (T : Tbl) (s : Int) (r : List UInt8) (hQ : tbQ T) (hs : 0 ≤ s ∧ s < 4294967296) : GoodP Tryd.prog gl0 19 [.agg [.int .i64 m, rowS eEs [] 1 std fun _ => T], .agg [.int .u32 s, .str r]] (.tup [.agg [.int .i64 m, rowS eEs [] 1 std fun _ => tRtT m T s r], .int .i64 (std.ti fun _ => tRtC m T s r)]) := by
  refine fn_sound' (T := seatT) (G := gv7) (X := noX) seatT_ok gv7_ok noX_ok noI_ok mixed Tryd.func19 (.none) (fun A => [.agg [.int .i64 m, rowS eEs [] 1 A fun _ => T], .agg [.int .u32 s, .str r]]) (fun A => .tup [.agg [.int .i64 m, rowS eEs [] 1 A fun _ => tRtT m T s r], .int .i64 (A.ti fun _ => tRtC m T s r)]) fun A hA => ?_
  have hT := hQ.1
  have hTi := hQ.2.1 (shi T s r).toNat
  have hTe := fun j => enQ_S (hQ.2.2 (shi T s r).toNat j)
  have hst : (bif (lkE T s r).st == 1 then true else (lkE T s r).st == 4) = stW (lkE T s r).st := rfl
  cbv
  repeat' (first | with_reducible exact True.intro | with_reducible exact dr_ok hA (by kernel_rfl) | with_reducible refine And.intro ?_ ?_ | (intro hc; cbv))
  all_goals (subst hA; simp only [std_add, std_sub, std_mul, std_quo, std_rem, std_band, std_bor, std_bxor, std_shl, std_shr, std_eq, std_ne, std_lt, std_le, std_conv, std_not, std_beq, std_bne, std_ite, std_want, std_and2, std_sadd, std_seq, std_sne, std_slt, std_sle, std_sgt, std_sge, std_slen, std_sget, std_scut, std_ofNat, std_toNat, std_nsub, std_nadd, std_lenOf, std_nz, std_nneg, std_inb, std_upto, std_slt63, std_grow, std_imp, std_impN, std_tr, std_tb, std_ti, std_ts, std_tn, std_tp, std_nmin, std_makes, std_room, std_zeros, std_nilq, std_notq, std_eqi, std_eqn, std_eqb, std_eqs, std_eqv, std_cat, std_lst, std_rset, std_rcopy, std_shift, std_eqr, std_strOf, std_bytesOf, std_isB, std_zOf, zOf_int, std_isI, isI_int, std_getL, std_nmul, std_sOf, sOf_str, std_isS, isS_str, std_fadd, std_fsub, std_fav, std_fsv, std_feq, std_fne, std_flt, std_fle, std_fgt, std_fge, std_fOf, std_fTo, std_fTv, isRow_T, lstOf_T, isRow_V, lstOf_V, hst] at *)
  all_goals first
    | done
    | exact ⟨trivial, hQ⟩
    | exact ⟨⟨trivial, hQ⟩, hs⟩
    | (have h1 := tRt_1 (s := s) (r := r) (nb_f hc)
       first
         | (rw [h1.1]; done)
         | (rw [h1.1]; exact (Reps.lit _).eqr)
         | (rw [h1.2]; done))
    | (have hr0 : (!tbR m T) = false := by assumption
       have hr := nb_t hr0
       have hcn := tbR_cnt hr
       first
         | (have h2 : (!lkB T s r) = true := by assumption
            have h1 := tRt_5 hr (nb_f h2)
            first
              | (rw [h1.1]; done)
              | (rw [h1.1]; exact (Reps.lit _).eqr)
              | (rw [h1.2]; done))
         | (have h2 : (!lkB T s r) = false := by assumption
            have h1 := tRt_8 hr (nb_t h2) hc
            first
              | (rw [h1.1]; done)
              | (rw [h1.1]; exact (Reps.lit _).eqr)
              | (rw [h1.2]; done))
         | (have h2 : (!lkB T s r) = false := by assumption
            have hin := lkB_in (nb_t h2)
            have h1 := tRt_0 hr (nb_t h2) hc
            unfold shl at h1
            have hcell := cell_eEs (x := rmL (T.getD (shi T s r).toNat []) s r) (Reps.lit (enc := eE) (d := E0) (k := 8) _)
            first
              | exact hin
              | exact ⟨trivial, hTi, hTe⟩
              | (rw [h1.1, List.length_set]; done)
              | (rw [h1.2]; done)
              | exact eqr_of ((Reps.lit T).rset' (i := (shi T s r).toNat) (by omega) _ rfl hcell) (by rw [h1.1, List.length_set]) h1.1.symm
              | trace_state)
         | exact fun h => h
         | exact fun h => by rw [h]; rfl
         | trace_state)
    | trace_state
noncomputable def c_tRetire : Ct := fun A args => match args with
  | [.agg [.int .i64 m, .slc n 1 f], .agg [.int .u32 s, .str r]] => some (some (A.tp fun _ => (isRow eEs [] 1 n f ∧ tbQ (lstOf eEs [] 1 n f)) ∧ 0 ≤ s ∧ s < 4294967296), .tup [.agg [.int .i64 m, rowS eEs [] 1 A fun _ => tRtT m (lstOf eEs [] 1 n f) s r], .int .i64 (A.ti fun _ => tRtC m (lstOf eEs [] 1 n f) s r)])
  | _ => none
noncomputable def gv8 : Ar → Pu := addC 10 c_tInsert (addC 17 c_tSwap (addC 19 c_tRetire (gv7)))
theorem gv8_ok : PuOk Tryd.prog gl0 (gv8 std) := by
  refine addC_ok (addC_ok (addC_ok (gv7_ok) ⟨_, Tryd.func19, rfl, by decide⟩ ?_) ⟨_, Tryd.func17, rfl, by decide⟩ ?_) ⟨_, Tryd.func10, rfl, by decide⟩ ?_
  · intro args p r h hp
    unfold c_tRetire at h
    split at h <;> cases h
    exact good_sv (good_tRetire _ _ _ _ hp.1.2 hp.2) ⟨⟨_, rfl, rfl, hp.1.1.sv, trivial⟩, ⟨_, rfl, rfl, rfl, trivial⟩, trivial⟩
  · intro args p r h hp
    unfold c_tSwap at h
    split at h <;> cases h
    exact good_sv (good_tSwap _ _ _ _ _ _ _ _ _ _ _ hp.1.2 hp.2) ⟨⟨_, rfl, rfl, hp.1.1.sv, trivial⟩, rfl, ⟨_, rfl, rfl, rfl, rfl, rfl, rfl, rfl, rfl, rfl, trivial⟩, trivial⟩
  · intro args p r h hp
    unfold c_tInsert at h
    split at h <;> cases h
    exact good_sv (good_tInsert _ _ _ _ _ _ _ _ _ _ hp.1.2 hp.2) ⟨⟨_, rfl, rfl, hp.1.1.sv, trivial⟩, ⟨_, rfl, rfl, rfl, rfl, rfl, rfl, rfl, rfl, rfl, trivial⟩, trivial⟩
end Go.Vd

set_option linter.unusedVariables false
set_option linter.unusedSimpArgs false
set_option maxRecDepth 100000
set_option maxHeartbeats 8000000
namespace Go.Vd
open Go.Proofs
def tSh (T : Tbl) : Bool := decide (T.length ≤ 20) && (T.all shL && decide (cnt T ≤ 200))
theorem tSh_no {T : Tbl} {i : Nat} (hi : i < T.length) (h : shL (T.getD i []) = false) : tSh T = false := by
  have : T.all shL = false := by
    rw [Bool.eq_false_iff]
    intro h2
    rw [List.all_eq_true] at h2
    rw [List.getD_eq_getElem?_getD, List.getElem?_eq_getElem hi] at h
    have h3 := h2 _ (List.getElem_mem hi)
    simp at h
    rw [h3] at h
    cases h
  unfold tSh
  rw [this]
  simp
theorem tSh_all {T : Tbl} (h : ∀ j, j < T.length → shL (T.getD j []) = true) : T.all shL = true := by
  rw [List.all_eq_true]
  intro x hx
  obtain ⟨j, hj, rfl⟩ := List.getElem_of_mem hx
  have := h j hj
  rw [List.getD_eq_getElem?_getD, List.getElem?_eq_getElem hj] at this
  exact this
theorem tSh_big {T : Tbl} (h : ¬T.length ≤ 20) : tSh T = false := by simp [tSh, h]
theorem cnt_sh {T : Tbl} : ∀ {i : Nat}, i ≤ T.length → (∀ j, j < i → shL (T.getD j []) = true) → cnt (T.take i) ≤ 200 * i
  | 0, _, _ => by simp [cnt]
  | i + 1, hi, h => by
    rw [cnt_snoc T (by omega)]
    have h1 := cnt_sh (T := T) (i := i) (by omega) fun j hj => h j (by omega)
    have h2 := (shL_iff.1 (h i (by omega))).1
    omega
attribute [local irreducible] vc
theorem good_tShort (m : Int) (T : Tbl) (hT : T.length ≤ 9223372036854775807) (hTi : ∀ i, (T.getD i []).length ≤ 9223372036854775807) : GoodP Tryd.prog gl0 14 [.agg [.int .i64 m, rowS eEs [] 1 std fun _ => T]] (.bool (std.tb fun _ => tSh T)) := by
  refine fn_sound' (T := seatT) (G := gs9) (X := noX) seatT_ok gs9_ok noX_ok noI_ok mixed Tryd.func14 (.one) (fun A => [.agg [.int .i64 m, rowS eEs [] 1 A fun _ => T]]) (fun A => .bool (A.tb fun _ => tSh T)) fun A hA => ?_
  cbv
  repeat' (first | with_reducible exact True.intro | with_reducible exact dr_ok hA (by kernel_rfl) | with_reducible refine And.intro ?_ ?_ | (intro hc; cbv))
  refine ⟨⟨{p : Nat × Nat // p.1 ≤ T.length ∧ p.1 ≤ 20 ∧ p.2 = cnt (T.take p.1) ∧ ∀ j, j < p.1 → shL (T.getD j []) = true}, fun b p => [(3, .int .i64 (p.1.2 : Nat)), (4, .int .i64 (p.1.1 : Nat))], fun b p => [], fun p => T.length - p.1.1, true⟩, ⟨⟨(0, 0), by omega, by omega, rfl, by simp⟩, ?_⟩, ?_⟩
  · cbv
    subst hA
    simp [-List.getD_eq_getElem?_getD, std_add, std_sub, std_mul, std_quo, std_rem, std_band, std_bor, std_bxor, std_shl, std_shr, std_eq, std_ne, std_lt, std_le, std_conv, std_not, std_beq, std_bne, std_ite, std_want, std_and2, std_sadd, std_seq, std_sne, std_slt, std_sle, std_sgt, std_sge, std_slen, std_sget, std_scut, std_ofNat, std_toNat, std_nsub, std_nadd, std_lenOf, std_nz, std_nneg, std_inb, std_upto, std_slt63, std_grow, std_imp, std_impN, std_tr, std_tb, std_ti, std_ts, std_tn, std_tp, std_nmin, std_makes, std_room, std_zeros, std_nilq, std_notq, std_eqi, std_eqn, std_eqb, std_eqs, std_eqv, std_cat, std_lst, std_rset, std_rcopy, std_shift, std_eqr, std_strOf, std_bytesOf, std_isB, std_zOf, zOf_int, std_isI, isI_int, std_getL, std_nmul, std_sOf, sOf_str, std_isS, isS_str, std_fadd, std_fsub, std_fav, std_fsv, std_feq, std_fne, std_flt, std_fle, std_fgt, std_fge, std_fOf, std_fTo, std_fTv]
  · rintro ⟨⟨i, q⟩, hx⟩
    have hi : i ≤ T.length := hx.1
    have h20 : i ≤ 20 := hx.2.1
    have hq : q = cnt (T.take i) := hx.2.2.1
    have hz : ∀ j, j < i → shL (T.getD j []) = true := hx.2.2.2
    have hTl := hTi i
    have hq2 := cnt_sh hi hz
    rw [← hq] at hq2
    obtain ⟨L, hL⟩ : ∃ L, L = T.getD i [] := ⟨_, rfl⟩
    have hgL : T.getD i [] = L := hL.symm
    rw [hgL] at hTl
    rcases Nat.lt_or_ge i T.length with hlt | hge
    · have hno := fun h => tSh_no (T := T) hlt (h : shL (T.getD i []) = false)
      rw [hgL] at hno
      have h1 := cnt_snoc T hlt
      obtain ⟨i', hi'⟩ : ∃ i', i' = i + 1 := ⟨_, rfl⟩
      obtain ⟨q', hq'⟩ : ∃ q', q' = cnt (T.take i') := ⟨_, rfl⟩
      rw [← hi', ← hq, ← hq', hgL] at h1
      cbv
      repeat' (first | with_reducible exact True.intro | with_reducible exact dr_ok hA (by kernel_rfl) | with_reducible refine And.intro ?_ ?_ | (intro hc; cbv))
      all_goals first
        | (fail_if_success (refine Exists.intro ?_ ?_)
           clear hz hx
           subst hA
           simp only [std_add, std_sub, std_mul, std_quo, std_rem, std_band, std_bor, std_bxor, std_shl, std_shr, std_eq, std_ne, std_lt, std_le, std_conv, std_not, std_beq, std_bne, std_ite, std_want, std_and2, std_sadd, std_seq, std_sne, std_slt, std_sle, std_sgt, std_sge, std_slen, std_sget, std_scut, std_ofNat, std_toNat, std_nsub, std_nadd, std_lenOf, std_nz, std_nneg, std_inb, std_upto, std_slt63, std_grow, std_imp, std_impN, std_tr, std_tb, std_ti, std_ts, std_tn, std_tp, std_nmin, std_makes, std_room, std_zeros, std_nilq, std_notq, std_eqi, std_eqn, std_eqb, std_eqs, std_eqv, std_cat, std_lst, std_rset, std_rcopy, std_shift, std_eqr, std_strOf, std_bytesOf, std_isB, std_zOf, zOf_int, std_isI, isI_int, std_getL, std_nmul, std_sOf, sOf_str, std_isS, isS_str, std_fadd, std_fsub, std_fav, std_fsv, std_feq, std_fne, std_flt, std_fle, std_fgt, std_fge, std_fOf, std_fTo, std_fTv, Int.ofNat_eq_natCast, Int.toNat_natCast, isRow_V, lstOf_V, isRow_T, lstOf_T] at *
           simp only [hgL] at *
           first
             | done
             | omega
             | (intros; omega)
             | (constructor <;> omega)
             | exact ⟨trivial, hTl⟩
             | exact fun h => h
             | exact fun h => ⟨h, h⟩
             | exact fun h => by rw [h]; rfl
             | exact (hno (nb_f hc)).symm
             | (have hb : ¬T.length ≤ 20 := by
                  simp at hc
                  omega
                rw [tSh_big hb]
                simp at hc ⊢
                omega))
        | (obtain ⟨h2, h3⟩ : shL L = true ∧ i < 20 := by
             clear hz hno hx
             subst hA
             simp only [std_add, std_sub, std_mul, std_quo, std_rem, std_band, std_bor, std_bxor, std_shl, std_shr, std_eq, std_ne, std_lt, std_le, std_conv, std_not, std_beq, std_bne, std_ite, std_want, std_and2, std_sadd, std_seq, std_sne, std_slt, std_sle, std_sgt, std_sge, std_slen, std_sget, std_scut, std_ofNat, std_toNat, std_nsub, std_nadd, std_lenOf, std_nz, std_nneg, std_inb, std_upto, std_slt63, std_grow, std_imp, std_impN, std_tr, std_tb, std_ti, std_ts, std_tn, std_tp, std_nmin, std_makes, std_room, std_zeros, std_nilq, std_notq, std_eqi, std_eqn, std_eqb, std_eqs, std_eqv, std_cat, std_lst, std_rset, std_rcopy, std_shift, std_eqr, std_strOf, std_bytesOf, std_isB, std_zOf, zOf_int, std_isI, isI_int, std_getL, std_nmul, std_sOf, sOf_str, std_isS, isS_str, std_fadd, std_fsub, std_fav, std_fsv, std_feq, std_fne, std_flt, std_fle, std_fgt, std_fge, std_fOf, std_fTo, std_fTv, Int.ofNat_eq_natCast, Int.toNat_natCast, isRow_V, lstOf_V, isRow_T, lstOf_T] at *
             simp only [hgL] at *
             rename_i hc0
             refine ⟨nb_t hc, ?_⟩
             simp at hc0
             omega
           have h4 := (shL_iff.1 h2).1
           refine ⟨⟨(i', q'), by omega, by omega, hq', fun j hj => ?_⟩, ?_, show T.length - i' < T.length - i by omega⟩
           · rcases Nat.lt_or_ge j i with h | h
             · exact hz j h
             · obtain rfl : j = i := by omega
               rw [hgL]; exact h2
           · cbv
             subst hA
             simp [-List.getD_eq_getElem?_getD, std_add, std_sub, std_mul, std_quo, std_rem, std_band, std_bor, std_bxor, std_shl, std_shr, std_eq, std_ne, std_lt, std_le, std_conv, std_not, std_beq, std_bne, std_ite, std_want, std_and2, std_sadd, std_seq, std_sne, std_slt, std_sle, std_sgt, std_sge, std_slen, std_sget, std_scut, std_ofNat, std_toNat, std_nsub, std_nadd, std_lenOf, std_nz, std_nneg, std_inb, std_upto, std_slt63, std_grow, std_imp, std_impN, std_tr, std_tb, std_ti, std_ts, std_tn, std_tp, std_nmin, std_makes, std_room, std_zeros, std_nilq, std_notq, std_eqi, std_eqn, std_eqb, std_eqs, std_eqv, std_cat, std_lst, std_rset, std_rcopy, std_shift, std_eqr, std_strOf, std_bytesOf, std_isB, std_zOf, zOf_int, std_isI, isI_int, std_getL, std_nmul, std_sOf, sOf_str, std_isS, isS_str, std_fadd, std_fsub, std_fav, std_fsv, std_feq, std_fne, std_flt, std_fle, std_fgt, std_fge, std_fOf, std_fTo, std_fTv, hgL]
             exact ⟨by rw [w64 (by omega)]; omega, w_succ' hi' (by omega)⟩)
        | trace_state
    · have hie : i = T.length := by omega
      rw [hie, List.take_length] at hq
      have hall := tSh_all fun j hj => hz j (by omega)
      cbv
      repeat' (first | with_reducible exact True.intro | with_reducible exact dr_ok hA (by kernel_rfl) | with_reducible refine And.intro ?_ ?_ | (intro hc; cbv))
      all_goals first
        | (exfalso; clear hz hall hx; subst hA; simp [-List.getD_eq_getElem?_getD, std_add, std_sub, std_mul, std_quo, std_rem, std_band, std_bor, std_bxor, std_shl, std_shr, std_eq, std_ne, std_lt, std_le, std_conv, std_not, std_beq, std_bne, std_ite, std_want, std_and2, std_sadd, std_seq, std_sne, std_slt, std_sle, std_sgt, std_sge, std_slen, std_sget, std_scut, std_ofNat, std_toNat, std_nsub, std_nadd, std_lenOf, std_nz, std_nneg, std_inb, std_upto, std_slt63, std_grow, std_imp, std_impN, std_tr, std_tb, std_ti, std_ts, std_tn, std_tp, std_nmin, std_makes, std_room, std_zeros, std_nilq, std_notq, std_eqi, std_eqn, std_eqb, std_eqs, std_eqv, std_cat, std_lst, std_rset, std_rcopy, std_shift, std_eqr, std_strOf, std_bytesOf, std_isB, std_zOf, zOf_int, std_isI, isI_int, std_getL, std_nmul, std_sOf, sOf_str, std_isS, isS_str, std_fadd, std_fsub, std_fav, std_fsv, std_feq, std_fne, std_flt, std_fle, std_fgt, std_fge, std_fOf, std_fTo, std_fTv] at hc; omega)
        | (exfalso; clear hz hall hx; subst hA; rename_i q0; simp [-List.getD_eq_getElem?_getD, std_add, std_sub, std_mul, std_quo, std_rem, std_band, std_bor, std_bxor, std_shl, std_shr, std_eq, std_ne, std_lt, std_le, std_conv, std_not, std_beq, std_bne, std_ite, std_want, std_and2, std_sadd, std_seq, std_sne, std_slt, std_sle, std_sgt, std_sge, std_slen, std_sget, std_scut, std_ofNat, std_toNat, std_nsub, std_nadd, std_lenOf, std_nz, std_nneg, std_inb, std_upto, std_slt63, std_grow, std_imp, std_impN, std_tr, std_tb, std_ti, std_ts, std_tn, std_tp, std_nmin, std_makes, std_room, std_zeros, std_nilq, std_notq, std_eqi, std_eqn, std_eqb, std_eqs, std_eqv, std_cat, std_lst, std_rset, std_rcopy, std_shift, std_eqr, std_strOf, std_bytesOf, std_isB, std_zOf, zOf_int, std_isI, isI_int, std_getL, std_nmul, std_sOf, sOf_str, std_isS, isS_str, std_fadd, std_fsub, std_fav, std_fsv, std_feq, std_fne, std_flt, std_fle, std_fgt, std_fge, std_fOf, std_fTo, std_fTv] at q0; omega)
        | (clear hz hx
           subst hA
           simp only [std_add, std_sub, std_mul, std_quo, std_rem, std_band, std_bor, std_bxor, std_shl, std_shr, std_eq, std_ne, std_lt, std_le, std_conv, std_not, std_beq, std_bne, std_ite, std_want, std_and2, std_sadd, std_seq, std_sne, std_slt, std_sle, std_sgt, std_sge, std_slen, std_sget, std_scut, std_ofNat, std_toNat, std_nsub, std_nadd, std_lenOf, std_nz, std_nneg, std_inb, std_upto, std_slt63, std_grow, std_imp, std_impN, std_tr, std_tb, std_ti, std_ts, std_tn, std_tp, std_nmin, std_makes, std_room, std_zeros, std_nilq, std_notq, std_eqi, std_eqn, std_eqb, std_eqs, std_eqv, std_cat, std_lst, std_rset, std_rcopy, std_shift, std_eqr, std_strOf, std_bytesOf, std_isB, std_zOf, zOf_int, std_isI, isI_int, std_getL, std_nmul, std_sOf, sOf_str, std_isS, isS_str, std_fadd, std_fsub, std_fav, std_fsv, std_feq, std_fne, std_flt, std_fle, std_fgt, std_fge, std_fOf, std_fTo, std_fTv, Int.ofNat_eq_natCast, Int.toNat_natCast, isRow_V, lstOf_V, isRow_T, lstOf_T] at *
           first
             | done
             | omega
             | (intros; omega)
             | exact fun h => h
             | exact fun h => ⟨h, h⟩
             | exact fun h => by rw [h]; rfl
             | (unfold tSh
                rw [hall, hq, Bool.eq_iff_iff]
                simp
                omega))
        | trace_state
noncomputable def c_tShort : Ct := fun A args => match args with
  | [.agg [.int .i64 m, .slc n 1 f]] => some (some (A.tp fun _ => isRow eEs [] 1 n f ∧ n ≤ 9223372036854775807 ∧ ∀ i, ((lstOf eEs [] 1 n f).getD i []).length ≤ 9223372036854775807), .bool (A.tb fun _ => tSh (lstOf eEs [] 1 n f)))
  | _ => none
theorem good_tSame (m m' : Int) (T T' : Tbl) (hQ : tbQ T) : GoodP Tryd.prog gl0 18 [.agg [.int .i64 m, rowS eEs [] 1 std fun _ => T], .agg [.int .i64 m', rowS eEs [] 1 std fun _ => T']] (.bool (std.tb fun _ => decide (m = m' ∧ T = T'))) := by
  refine fn_sound' (T := seatT) (G := gs9) (X := noX) seatT_ok gs9_ok noX_ok noI_ok mixed Tryd.func18 (.one) (fun A => [.agg [.int .i64 m, rowS eEs [] 1 A fun _ => T], .agg [.int .i64 m', rowS eEs [] 1 A fun _ => T']]) (fun A => .bool (A.tb fun _ => decide (m = m' ∧ T = T'))) fun A hA => ?_
  cbv
  repeat' (first | with_reducible exact True.intro | with_reducible exact dr_ok hA (by kernel_rfl) | with_reducible refine And.intro ?_ ?_ | (intro hc; cbv))
  rotate_right
  all_goals first
    | (fail_if_success (refine Exists.intro ?_ ?_)
       subst hA
       simp only [std_add, std_sub, std_mul, std_quo, std_rem, std_band, std_bor, std_bxor, std_shl, std_shr, std_eq, std_ne, std_lt, std_le, std_conv, std_not, std_beq, std_bne, std_ite, std_want, std_and2, std_sadd, std_seq, std_sne, std_slt, std_sle, std_sgt, std_sge, std_slen, std_sget, std_scut, std_ofNat, std_toNat, std_nsub, std_nadd, std_lenOf, std_nz, std_nneg, std_inb, std_upto, std_slt63, std_grow, std_imp, std_impN, std_tr, std_tb, std_ti, std_ts, std_tn, std_tp, std_nmin, std_makes, std_room, std_zeros, std_nilq, std_notq, std_eqi, std_eqn, std_eqb, std_eqs, std_eqv, std_cat, std_lst, std_rset, std_rcopy, std_shift, std_eqr, std_strOf, std_bytesOf, std_isB, std_zOf, zOf_int, std_isI, isI_int, std_getL, std_nmul, std_sOf, sOf_str, std_isS, isS_str, std_fadd, std_fsub, std_fav, std_fsv, std_feq, std_fne, std_flt, std_fle, std_fgt, std_fge, std_fOf, std_fTo, std_fTv, Int.ofNat_eq_natCast, Int.toNat_natCast, isRow_V, lstOf_V, isRow_T, lstOf_T] at *
       first
         | done
         | exact fun h => h
             | exact fun h => ⟨h, h⟩
         | exact fun h => by rw [h]; rfl
         | (symm
            rw [decide_eq_false_iff_not]
            rintro ⟨e1, e2⟩
            subst e1 e2
            simp at hc
            done))
    | skip
  obtain ⟨hm, hl⟩ : m = m' ∧ T.length = T'.length := by
    subst hA
    simp only [std_add, std_sub, std_mul, std_quo, std_rem, std_band, std_bor, std_bxor, std_shl, std_shr, std_eq, std_ne, std_lt, std_le, std_conv, std_not, std_beq, std_bne, std_ite, std_want, std_and2, std_sadd, std_seq, std_sne, std_slt, std_sle, std_sgt, std_sge, std_slen, std_sget, std_scut, std_ofNat, std_toNat, std_nsub, std_nadd, std_lenOf, std_nz, std_nneg, std_inb, std_upto, std_slt63, std_grow, std_imp, std_impN, std_tr, std_tb, std_ti, std_ts, std_tn, std_tp, std_nmin, std_makes, std_room, std_zeros, std_nilq, std_notq, std_eqi, std_eqn, std_eqb, std_eqs, std_eqv, std_cat, std_lst, std_rset, std_rcopy, std_shift, std_eqr, std_strOf, std_bytesOf, std_isB, std_zOf, zOf_int, std_isI, isI_int, std_getL, std_nmul, std_sOf, sOf_str, std_isS, isS_str, std_fadd, std_fsub, std_fav, std_fsv, std_feq, std_fne, std_flt, std_fle, std_fgt, std_fge, std_fOf, std_fTo, std_fTv, Int.ofNat_eq_natCast, Int.toNat_natCast, isRow_V, lstOf_V, isRow_T, lstOf_T] at *
    simp at hc
    exact ⟨hc.1, by omega⟩
  refine ⟨⟨{i : Nat // i ≤ T.length ∧ T.take i = T'.take i}, fun b i => [(5, .int .i64 (i.1 : Nat))], fun b i => [], fun i => T.length - i.1, true⟩, ⟨⟨0, by omega, rfl⟩, ?_⟩, ?_⟩
  · cbv
    subst hA
    simp [-List.getD_eq_getElem?_getD, std_add, std_sub, std_mul, std_quo, std_rem, std_band, std_bor, std_bxor, std_shl, std_shr, std_eq, std_ne, std_lt, std_le, std_conv, std_not, std_beq, std_bne, std_ite, std_want, std_and2, std_sadd, std_seq, std_sne, std_slt, std_sle, std_sgt, std_sge, std_slen, std_sget, std_scut, std_ofNat, std_toNat, std_nsub, std_nadd, std_lenOf, std_nz, std_nneg, std_inb, std_upto, std_slt63, std_grow, std_imp, std_impN, std_tr, std_tb, std_ti, std_ts, std_tn, std_tp, std_nmin, std_makes, std_room, std_zeros, std_nilq, std_notq, std_eqi, std_eqn, std_eqb, std_eqs, std_eqv, std_cat, std_lst, std_rset, std_rcopy, std_shift, std_eqr, std_strOf, std_bytesOf, std_isB, std_zOf, zOf_int, std_isI, isI_int, std_getL, std_nmul, std_sOf, sOf_str, std_isS, isS_str, std_fadd, std_fsub, std_fav, std_fsv, std_feq, std_fne, std_flt, std_fle, std_fgt, std_fge, std_fOf, std_fTo, std_fTv]
  · rintro ⟨i, hx⟩
    have hi : i ≤ T.length := hx.1
    have hz : T.take i = T'.take i := hx.2
    have hT := hQ.1
    have hTl := hQ.2.1 i
    obtain ⟨L, hL⟩ : ∃ L, L = T.getD i [] := ⟨_, rfl⟩
    have hgL : T.getD i [] = L := hL.symm
    obtain ⟨M, hM⟩ : ∃ M, M = T'.getD i [] := ⟨_, rfl⟩
    have hgM : T'.getD i [] = M := hM.symm
    rw [hgL] at hTl
    have hne : ¬L = M → ¬T = T' := fun hn e => hn (by rw [hL, hM, e])
    rcases Nat.lt_or_ge i T.length with hlt | hge
    · obtain ⟨i', hi'⟩ : ∃ i', i' = i + 1 := ⟨_, rfl⟩
      cbv
      repeat' (first | with_reducible exact True.intro | with_reducible exact dr_ok hA (by kernel_rfl) | with_reducible refine And.intro ?_ ?_ | (intro hc; cbv))
      all_goals first
        | (fail_if_success (refine Exists.intro ?_ ?_)
           clear hz hx
           subst hA
           simp only [std_add, std_sub, std_mul, std_quo, std_rem, std_band, std_bor, std_bxor, std_shl, std_shr, std_eq, std_ne, std_lt, std_le, std_conv, std_not, std_beq, std_bne, std_ite, std_want, std_and2, std_sadd, std_seq, std_sne, std_slt, std_sle, std_sgt, std_sge, std_slen, std_sget, std_scut, std_ofNat, std_toNat, std_nsub, std_nadd, std_lenOf, std_nz, std_nneg, std_inb, std_upto, std_slt63, std_grow, std_imp, std_impN, std_tr, std_tb, std_ti, std_ts, std_tn, std_tp, std_nmin, std_makes, std_room, std_zeros, std_nilq, std_notq, std_eqi, std_eqn, std_eqb, std_eqs, std_eqv, std_cat, std_lst, std_rset, std_rcopy, std_shift, std_eqr, std_strOf, std_bytesOf, std_isB, std_zOf, zOf_int, std_isI, isI_int, std_getL, std_nmul, std_sOf, sOf_str, std_isS, isS_str, std_fadd, std_fsub, std_fav, std_fsv, std_feq, std_fne, std_flt, std_fle, std_fgt, std_fge, std_fOf, std_fTo, std_fTv, Int.ofNat_eq_natCast, Int.toNat_natCast, isRow_V, lstOf_V, isRow_T, lstOf_T] at *
           simp only [hgL, hgM] at *
           first
             | done
             | (constructor <;> omega)
             | exact ⟨⟨trivial, trivial⟩, hTl⟩
             | (exfalso; have := of_decide_eq_false hc; omega)
             | (symm
                rw [decide_eq_false_iff_not]
                rintro ⟨e1, e2⟩
                exact hne (of_decide_eq_false (nb_f hc)) e2))
        | (have h2 : L = M := by
             clear hz hx hne
             subst hA
             simp only [std_add, std_sub, std_mul, std_quo, std_rem, std_band, std_bor, std_bxor, std_shl, std_shr, std_eq, std_ne, std_lt, std_le, std_conv, std_not, std_beq, std_bne, std_ite, std_want, std_and2, std_sadd, std_seq, std_sne, std_slt, std_sle, std_sgt, std_sge, std_slen, std_sget, std_scut, std_ofNat, std_toNat, std_nsub, std_nadd, std_lenOf, std_nz, std_nneg, std_inb, std_upto, std_slt63, std_grow, std_imp, std_impN, std_tr, std_tb, std_ti, std_ts, std_tn, std_tp, std_nmin, std_makes, std_room, std_zeros, std_nilq, std_notq, std_eqi, std_eqn, std_eqb, std_eqs, std_eqv, std_cat, std_lst, std_rset, std_rcopy, std_shift, std_eqr, std_strOf, std_bytesOf, std_isB, std_zOf, zOf_int, std_isI, isI_int, std_getL, std_nmul, std_sOf, sOf_str, std_isS, isS_str, std_fadd, std_fsub, std_fav, std_fsv, std_feq, std_fne, std_flt, std_fle, std_fgt, std_fge, std_fOf, std_fTo, std_fTv, Int.ofNat_eq_natCast, Int.toNat_natCast, isRow_V, lstOf_V, isRow_T, lstOf_T] at *
             simp only [hgL, hgM] at *
             exact of_decide_eq_true (nb_t hc)
           refine ⟨⟨i', by omega, ?_⟩, ?_, show T.length - i' < T.length - i by omega⟩
           · rw [hi', ← take_snoc (d := []) hlt, ← take_snoc (d := []) (show i < T'.length by omega), hz, hgL, hgM, h2]
           · cbv
             subst hA
             simp [-List.getD_eq_getElem?_getD, std_add, std_sub, std_mul, std_quo, std_rem, std_band, std_bor, std_bxor, std_shl, std_shr, std_eq, std_ne, std_lt, std_le, std_conv, std_not, std_beq, std_bne, std_ite, std_want, std_and2, std_sadd, std_seq, std_sne, std_slt, std_sle, std_sgt, std_sge, std_slen, std_sget, std_scut, std_ofNat, std_toNat, std_nsub, std_nadd, std_lenOf, std_nz, std_nneg, std_inb, std_upto, std_slt63, std_grow, std_imp, std_impN, std_tr, std_tb, std_ti, std_ts, std_tn, std_tp, std_nmin, std_makes, std_room, std_zeros, std_nilq, std_notq, std_eqi, std_eqn, std_eqb, std_eqs, std_eqv, std_cat, std_lst, std_rset, std_rcopy, std_shift, std_eqr, std_strOf, std_bytesOf, std_isB, std_zOf, zOf_int, std_isI, isI_int, std_getL, std_nmul, std_sOf, sOf_str, std_isS, isS_str, std_fadd, std_fsub, std_fav, std_fsv, std_feq, std_fne, std_flt, std_fle, std_fgt, std_fge, std_fOf, std_fTo, std_fTv]
             exact w_succ' hi' (by omega))
        | trace_state
    · have hie : i = T.length := by omega
      rw [hie, List.take_length, hl, List.take_length] at hz
      cbv
      repeat' (first | with_reducible exact True.intro | with_reducible exact dr_ok hA (by kernel_rfl) | with_reducible refine And.intro ?_ ?_ | (intro hc; cbv))
      all_goals first
        | (exfalso; clear hz hx hne; subst hA; simp [-List.getD_eq_getElem?_getD, std_add, std_sub, std_mul, std_quo, std_rem, std_band, std_bor, std_bxor, std_shl, std_shr, std_eq, std_ne, std_lt, std_le, std_conv, std_not, std_beq, std_bne, std_ite, std_want, std_and2, std_sadd, std_seq, std_sne, std_slt, std_sle, std_sgt, std_sge, std_slen, std_sget, std_scut, std_ofNat, std_toNat, std_nsub, std_nadd, std_lenOf, std_nz, std_nneg, std_inb, std_upto, std_slt63, std_grow, std_imp, std_impN, std_tr, std_tb, std_ti, std_ts, std_tn, std_tp, std_nmin, std_makes, std_room, std_zeros, std_nilq, std_notq, std_eqi, std_eqn, std_eqb, std_eqs, std_eqv, std_cat, std_lst, std_rset, std_rcopy, std_shift, std_eqr, std_strOf, std_bytesOf, std_isB, std_zOf, zOf_int, std_isI, isI_int, std_getL, std_nmul, std_sOf, sOf_str, std_isS, isS_str, std_fadd, std_fsub, std_fav, std_fsv, std_feq, std_fne, std_flt, std_fle, std_fgt, std_fge, std_fOf, std_fTo, std_fTv] at hc; omega)
        | (exfalso; clear hz hx hne; subst hA; rename_i q0; simp [-List.getD_eq_getElem?_getD, std_add, std_sub, std_mul, std_quo, std_rem, std_band, std_bor, std_bxor, std_shl, std_shr, std_eq, std_ne, std_lt, std_le, std_conv, std_not, std_beq, std_bne, std_ite, std_want, std_and2, std_sadd, std_seq, std_sne, std_slt, std_sle, std_sgt, std_sge, std_slen, std_sget, std_scut, std_ofNat, std_toNat, std_nsub, std_nadd, std_lenOf, std_nz, std_nneg, std_inb, std_upto, std_slt63, std_grow, std_imp, std_impN, std_tr, std_tb, std_ti, std_ts, std_tn, std_tp, std_nmin, std_makes, std_room, std_zeros, std_nilq, std_notq, std_eqi, std_eqn, std_eqb, std_eqs, std_eqv, std_cat, std_lst, std_rset, std_rcopy, std_shift, std_eqr, std_strOf, std_bytesOf, std_isB, std_zOf, zOf_int, std_isI, isI_int, std_getL, std_nmul, std_sOf, sOf_str, std_isS, isS_str, std_fadd, std_fsub, std_fav, std_fsv, std_feq, std_fne, std_flt, std_fle, std_fgt, std_fge, std_fOf, std_fTo, std_fTv] at q0; omega)
        | (clear hx
           subst hA
           simp only [std_add, std_sub, std_mul, std_quo, std_rem, std_band, std_bor, std_bxor, std_shl, std_shr, std_eq, std_ne, std_lt, std_le, std_conv, std_not, std_beq, std_bne, std_ite, std_want, std_and2, std_sadd, std_seq, std_sne, std_slt, std_sle, std_sgt, std_sge, std_slen, std_sget, std_scut, std_ofNat, std_toNat, std_nsub, std_nadd, std_lenOf, std_nz, std_nneg, std_inb, std_upto, std_slt63, std_grow, std_imp, std_impN, std_tr, std_tb, std_ti, std_ts, std_tn, std_tp, std_nmin, std_makes, std_room, std_zeros, std_nilq, std_notq, std_eqi, std_eqn, std_eqb, std_eqs, std_eqv, std_cat, std_lst, std_rset, std_rcopy, std_shift, std_eqr, std_strOf, std_bytesOf, std_isB, std_zOf, zOf_int, std_isI, isI_int, std_getL, std_nmul, std_sOf, sOf_str, std_isS, isS_str, std_fadd, std_fsub, std_fav, std_fsv, std_feq, std_fne, std_flt, std_fle, std_fgt, std_fge, std_fOf, std_fTo, std_fTv, Int.ofNat_eq_natCast, Int.toNat_natCast, isRow_V, lstOf_V, isRow_T, lstOf_T] at *
           exact (decide_eq_true ⟨hm, hz⟩).symm)
        | trace_state
noncomputable def c_tSame : Ct := fun A args => match args with
  | [.agg [.int .i64 m, .slc n 1 f], .agg [.int .i64 m', .slc n' 1 f']] => some (some (A.tp fun _ => (isRow eEs [] 1 n f ∧ isRow eEs [] 1 n' f') ∧ tbQ (lstOf eEs [] 1 n f)), .bool (A.tb fun _ => decide (m = m' ∧ lstOf eEs [] 1 n f = lstOf eEs [] 1 n' f')))
  | _ => none
noncomputable def gv9 : Ar → Pu := addC 14 c_tShort (addC 18 c_tSame (gv8))
theorem gv9_ok : PuOk Tryd.prog gl0 (gv9 std) := by
  refine addC_ok (addC_ok (gv8_ok) ⟨_, Tryd.func18, rfl, by decide⟩ ?_) ⟨_, Tryd.func14, rfl, by decide⟩ ?_
  · intro args p r h hp
    unfold c_tSame at h
    split at h <;> cases h
    exact good_sv (good_tSame _ _ _ _ hp.2) ⟨⟨_, rfl, rfl, hp.1.1.sv, trivial⟩, ⟨_, rfl, rfl, hp.1.2.sv, trivial⟩, trivial⟩
  · intro args p r h hp
    unfold c_tShort at h
    split at h <;> cases h
    exact good_sv (good_tShort _ _ (by rw [lstOf_length hp.1]; exact hp.2.1) hp.2.2) ⟨⟨_, rfl, rfl, hp.1.sv, trivial⟩, trivial⟩
end Go.Vd

set_option linter.unusedVariables false
set_option linter.unusedSimpArgs false
set_option maxRecDepth 100000
set_option maxHeartbeats 8000000
namespace Go.Vd
open Go.Proofs
theorem tv1 : newM 1 4 = 1 := by decide
theorem tv2 : newT 1 4 = [[], [], [], []] := by decide
theorem tv3 : newC 1 4 = 0 := by decide
theorem tv4 : tInsT 1 [[], [], [], []] ⟨2, [82, 82, 78, 48, 48, 48, 48, 48, 48, 48, 48, 49], 1, [49, 56], 5, [], 0, 0⟩ = [[], [], [⟨2, [82, 82, 78, 48, 48, 48, 48, 48, 48, 48, 48, 49], 1, [49, 56], 5, [], 0, 0⟩], []] := by decide +kernel
theorem tv5 : tInsC 1 [[], [], [], []] ⟨2, [82, 82, 78, 48, 48, 48, 48, 48, 48, 48, 48, 49], 1, [49, 56], 5, [], 0, 0⟩ = 0 := by decide +kernel
theorem tv6 : tInsC 1 [[], [], [⟨2, [82, 82, 78, 48, 48, 48, 48, 48, 48, 48, 48, 49], 1, [49, 56], 5, [], 0, 0⟩], []] ⟨1, [82, 82, 78, 48, 48, 48, 48, 48, 48, 48, 48, 49], 1, [49, 56], 5, [], 0, 0⟩ = 7 := by decide +kernel
theorem tv7 : tRtC 1 [[], [], [⟨2, [82, 82, 78, 48, 48, 48, 48, 48, 48, 48, 48, 49], 1, [49, 56], 5, [], 0, 0⟩], []] 2 [82, 82, 78, 48, 48, 48, 48, 48, 48, 48, 48, 49] = 8 := by decide +kernel
theorem tv8 : tSwT 1 [[], [], [⟨2, [82, 82, 78, 48, 48, 48, 48, 48, 48, 48, 48, 49], 1, [49, 56], 5, [], 0, 0⟩], []] 1 ⟨2, [82, 82, 78, 48, 48, 48, 48, 48, 48, 48, 48, 49], 2, [49, 56], 5, [48, 48], 0, 0⟩ = [[], [], [⟨2, [82, 82, 78, 48, 48, 48, 48, 48, 48, 48, 48, 49], 2, [49, 56], 5, [48, 48], 0, 0⟩], []] := by decide +kernel
theorem tv9 : tSwC 1 [[], [], [⟨2, [82, 82, 78, 48, 48, 48, 48, 48, 48, 48, 48, 49], 1, [49, 56], 5, [], 0, 0⟩], []] 1 ⟨2, [82, 82, 78, 48, 48, 48, 48, 48, 48, 48, 48, 49], 2, [49, 56], 5, [48, 48], 0, 0⟩ = 0 := by decide +kernel
theorem tva : tFnd 1 [[], [], [⟨2, [82, 82, 78, 48, 48, 48, 48, 48, 48, 48, 48, 49], 2, [49, 56], 5, [48, 48], 0, 0⟩], []] 2 [82, 82, 78, 48, 48, 48, 48, 48, 48, 48, 48, 49] = ⟨2, [82, 82, 78, 48, 48, 48, 48, 48, 48, 48, 48, 49], 2, [49, 56], 5, [48, 48], 0, 0⟩ := by decide +kernel
theorem tvb : tHas 1 [[], [], [⟨2, [82, 82, 78, 48, 48, 48, 48, 48, 48, 48, 48, 49], 2, [49, 56], 5, [48, 48], 0, 0⟩], []] 2 [82, 82, 78, 48, 48, 48, 48, 48, 48, 48, 48, 49] = true := by decide +kernel
theorem tvc : tRtC 1 [[], [], [⟨2, [82, 82, 78, 48, 48, 48, 48, 48, 48, 48, 48, 49], 2, [49, 56], 5, [48, 48], 0, 0⟩], []] 2 [82, 82, 78, 48, 48, 48, 48, 48, 48, 48, 48, 49] = 0 := by decide +kernel
theorem tvd : tRtT 1 [[], [], [⟨2, [82, 82, 78, 48, 48, 48, 48, 48, 48, 48, 48, 49], 2, [49, 56], 5, [48, 48], 0, 0⟩], []] 2 [82, 82, 78, 48, 48, 48, 48, 48, 48, 48, 48, 49] = [[], [], [], []] := by decide +kernel
theorem tve : tbR 1 [[], [], [⟨2, [82, 82, 78, 48, 48, 48, 48, 48, 48, 48, 48, 49], 2, [49, 56], 5, [48, 48], 0, 0⟩], []] = true := by decide +kernel
theorem tvf : tbR 1 [[], [], [], []] = true := by decide +kernel
theorem tvg : (allT 1 [[], [], [⟨2, [82, 82, 78, 48, 48, 48, 48, 48, 48, 48, 48, 49], 2, [49, 56], 5, [48, 48], 0, 0⟩], []]).length = 1 := by rw [all_y tve, (srtE_sorts _).1]; rfl
theorem tvh : (allT 1 [[], [], [], []]).length = 0 := by rw [all_y tvf, (srtE_sorts _).1]; rfl
theorem enQ_0 : enQ E0 := ⟨by decide, by decide, by decide, by decide⟩
theorem tbQ_0 : tbQ [[], [], [], []] := ⟨by decide, fun i => by rcases i with _ | _ | _ | _ | i <;> simp, fun i j => by rcases i with _ | _ | _ | _ | i <;> exact enQ_0⟩
theorem tbQ_1 {x : Ent} (hx : enQ x) : tbQ [[], [], [x], []] := ⟨by simp, fun i => by rcases i with _ | _ | _ | _ | i <;> simp, fun i j => by
  rcases i with _ | _ | _ | _ | i
  · exact enQ_0
  · exact enQ_0
  · cases j with
    | zero => exact hx
    | succ j => exact enQ_0
  · exact enQ_0
  · exact enQ_0⟩
theorem enQ_c (s st am tr ca : Int) (r pan code : List UInt8) (h : (0 ≤ s ∧ s < 4294967296) ∧ r.length ≤ 1000000 ∧ pan.length ≤ 100000 ∧ code.length ≤ 1000000) : enQ ⟨s, r, st, pan, am, code, tr, ca⟩ := h
attribute [local irreducible] vc
theorem good_tAwake  : GoodP Tryd.prog gl0 5 [] (.bool true) := by
  refine fn_sound' (T := seatT) (G := gv9) (X := noX) seatT_ok gv9_ok noX_ok noI_ok mixed Tryd.func5 (.one) (fun A => []) (fun A => .bool true) fun A hA => ?_
  cbv
  repeat' (first | with_reducible exact True.intro | with_reducible exact dr_ok hA (by kernel_rfl) | with_reducible refine And.intro ?_ ?_ | (intro hc; cbv))
  all_goals (subst hA; simp only [std_add, std_sub, std_mul, std_quo, std_rem, std_band, std_bor, std_bxor, std_shl, std_shr, std_eq, std_ne, std_lt, std_le, std_conv, std_not, std_beq, std_bne, std_ite, std_want, std_and2, std_sadd, std_seq, std_sne, std_slt, std_sle, std_sgt, std_sge, std_slen, std_sget, std_scut, std_ofNat, std_toNat, std_nsub, std_nadd, std_lenOf, std_nz, std_nneg, std_inb, std_upto, std_slt63, std_grow, std_imp, std_impN, std_tr, std_tb, std_ti, std_ts, std_tn, std_tp, std_nmin, std_makes, std_room, std_zeros, std_nilq, std_notq, std_eqi, std_eqn, std_eqb, std_eqs, std_eqv, std_cat, std_lst, std_rset, std_rcopy, std_shift, std_eqr, std_strOf, std_bytesOf, std_isB, std_zOf, zOf_int, std_isI, isI_int, std_getL, std_nmul, std_sOf, sOf_str, std_isS, isS_str, std_fadd, std_fsub, std_fav, std_fsv, std_feq, std_fne, std_flt, std_fle, std_fgt, std_fge, std_fOf, std_fTo, std_fTv, isRow_T, lstOf_T, isRow_V, lstOf_V, tv1, tv2, tv3, tv4, tv5, tv6, tv7, tv8, tv9, tva, tvb, tvc, tvd, tve, tvg, tvh] at *)
  all_goals first
    | done
    | decide
    | exact ⟨⟨trivial, tbQ_0⟩, enQ_c _ _ _ _ _ _ _ _ (by decide)⟩
    | exact ⟨⟨trivial, tbQ_1 (enQ_c _ _ _ _ _ _ _ _ (by decide))⟩, enQ_c _ _ _ _ _ _ _ _ (by decide)⟩
    | exact ⟨⟨trivial, tbQ_1 (enQ_c _ _ _ _ _ _ _ _ (by decide))⟩, by decide⟩
    | exact ⟨trivial, tbQ_1 (enQ_c _ _ _ _ _ _ _ _ (by decide))⟩
    | exact ⟨trivial, tbQ_0⟩
    | exact fun _ => ⟨by decide, trivial, tbQ_1 (enQ_c _ _ _ _ _ _ _ _ (by decide))⟩
    | exact fun _ => ⟨by decide, trivial, tbQ_0⟩
    | trace_state
noncomputable def c_tAwake : Ct := fun A args => match args with
  | [] => some (none, .bool true)
  | _ => none
noncomputable def gvA : Ar → Pu := addC 5 c_tAwake (gv9)
theorem gvA_ok : PuOk Tryd.prog gl0 (gvA std) := by
  refine addC_ok (gv9_ok) ⟨_, Tryd.func5, rfl, by decide⟩ ?_
  · intro args p r h hp
    unfold c_tAwake at h
    split at h <;> cases h
    exact good_tAwake
end Go.Vd

