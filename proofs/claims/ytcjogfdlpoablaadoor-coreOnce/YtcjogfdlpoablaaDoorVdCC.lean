/- The core's laws: CoreOnce: what goes on from step to step. -/
import Derived.Test.YtcjogfdlpoablaaDoorVdC7
set_option linter.unusedVariables false
set_option linter.unusedSimpArgs false
set_option maxRecDepth 100000
set_option maxHeartbeats 8000000
namespace Go.Vd
open Go.Proofs
/-- What an answer makes of the code that was told; none: it is another one. -/
def stA (E : Ent) (c : List UInt8) (x : Dl) : Option (List UInt8) :=
  if ¬x.k = 2 ∨ (x.code = [57, 52] ∧ ¬E.code = [57, 52]) then some c else if ¬c = [] ∧ ¬x.code = c then none else some x.code
def foA (E : Ent) : List Dl → List UInt8 → Option (List UInt8)
  | [], c => some c
  | x :: l, c => match stA E c x with
    | some c' => foA E l c'
    | none => none
def foI : List Dl → Int × Int × Int → Int × Int × Int
  | [], t => t
  | x :: l, (a, b, c) => foI l (if x.k = 1 then (a + 1, b, c) else if x.k = 5 then (a, b + 1, c) else if x.k = 6 then (a, b, c + 1) else (a, b, c))
def OInv (n : Int) (e : Ent) (c : List UInt8) (t : Int × Int × Int) : Prop :=
  (e = E0 ∧ c = [] ∧ t = (0, 0, 0)) ∨ (eR e = true ∧ t.1 = 1 ∧ (e.st = 1 → c = []) ∧ (¬e.st = 1 → c = e.code) ∧ (e.st ≤ 3 → t.2.1 = 0) ∧ (0 ≤ t.2.1 ∧ t.2.1 ≤ 1) ∧ t.2.2 = e.tr ∧ e.tr ≤ n ∧ (e.ca = 1 → e.code = [54, 56]))
theorem foA_1 {E : Ent} {c c' : List UInt8} {x : Dl} (h : stA E c x = some c') : foA E [x] c = some c' := by simp [foA, h]
theorem foA_2 {E : Ent} {c c' c2 : List UInt8} {x y : Dl} (h : stA E c x = some c') (h2 : stA E c' y = some c2) : foA E [x, y] c = some c2 := by simp [foA, h, h2]
theorem stA_U {E : Ent} {c z : List UInt8} {d : Dl} : stA E c (tU d z) = some c := by simp [stA, tU]
theorem stA_odd {E : Ent} {c : List UInt8} {d : Dl} (h : E.code = [57, 52] → c = [57, 52] ∨ c = []) (h2 : E.code = [57, 52] → c = E.code) : stA E c (tA d [57, 52]) = some c := by
  unfold stA
  by_cases he : E.code = [57, 52]
  · have hc := h2 he
    rw [he] at hc
    rw [hc]
    simp [tA, he]
  · rw [if_pos (.inr ⟨rfl, he⟩)]
theorem stA_new {E : Ent} {z : List UInt8} {d : Dl} (h : E.code = z) : stA E [] (tA d z) = some z := by
  unfold stA
  rw [if_neg (by
    rintro (h1 | h1)
    · exact h1 rfl
    · exact h1.2 (h.trans h1.1)), if_neg (fun h1 => h1.1 rfl)]
  rfl
theorem stA_same {E : Ent} {d : Dl} : stA E E.code (tA d E.code) = some E.code := by
  unfold stA
  rw [if_neg (by
    rintro (h1 | h1)
    · exact h1 rfl
    · exact h1.2 h1.1), if_neg (fun h1 => h1.2 rfl)]
  rfl
/-- A step keeps it. -/
theorem once_step {n : Int} {e : Ent} {c : List UInt8} {t : Int × Int × Int} {v : Int} {d : Dl} (hI : OInv n e c t) (h0 : stpE e v d n = 0) :
    ∃ c', foA (stp e v d n).e (stp e v d n).a c = some c' ∧ OInv n (stp e v d n).e c' (foI (stp e v d n).i t) ∧ ¬(c' = [48, 48] ∧ (stp e v d n).e.ca = 1) := by
  have hGS := core_steps h0
  obtain ⟨h1, h2, h3, h4, h5⟩ := stpE_ok h0
  rw [h1] at hGS ⊢
  obtain ⟨a, b, q⟩ := t
  rcases hI with ⟨rfl, rfl, ht⟩ | ⟨hR, hI⟩
  · simp only [Prod.mk.injEq] at ht
    obtain ⟨rfl, rfl, rfl⟩ := ht
    rcases vR_five h2 with rfl | rfl | rfl | rfl | rfl
    · have hs : stpK E0 1 d n = ⟨⟨d.s, d.r, 1, d.pan, d.am, [], 0, 0⟩, [], [⟨1, d.pan, d.am, d.s, d.r, []⟩], 1, false⟩ := by simp [stpK, stAsk]
      rw [hs] at hGS ⊢
      have hr : eR ⟨d.s, d.r, 1, d.pan, d.am, [], 0, 0⟩ = true := by
        rcases hGS.1 with h | h
        · have := congrArg Ent.st h; cases this
        · exact h.1
      exact ⟨[], rfl, .inr ⟨hr, by simp [foI], fun _ => rfl, fun h => absurd rfl h, fun _ => by simp [foI], by simp [foI], by simp [foI], h4, fun h => by cases h⟩, fun h => by cases h.1⟩
    · have hs : stpK E0 2 d n = ⟨E0, [], [], 0, false⟩ := by simp [stpK, stAns, E0]
      rw [hs]
      exact ⟨[], rfl, .inl ⟨rfl, rfl, rfl⟩, fun h => by cases h.1⟩
    · have hs : stpK E0 3 d n = ⟨E0, [tU d [50, 53]], [], 0, false⟩ := by simp [stpK, stUndo]
      rw [hs]
      exact ⟨[], foA_1 stA_U, .inl ⟨rfl, rfl, rfl⟩, fun h => by cases h.1⟩
    · have hs : stpK E0 4 d n = ⟨E0, [], [], 0, false⟩ := by simp [stpK, stTime, E0]
      rw [hs]
      exact ⟨[], rfl, .inl ⟨rfl, rfl, rfl⟩, fun h => by cases h.1⟩
    · have hs : stpK E0 5 d n = ⟨E0, [], [], 0, false⟩ := by simp [stpK, stAck, E0]
      rw [hs]
      exact ⟨[], rfl, .inl ⟨rfl, rfl, rfl⟩, fun h => by cases h.1⟩
  · obtain ⟨ha, hc1, hc2, hb, hb1, hq, hq1, hca⟩ := hI
    simp only at ha hb hb1 hq
    have hC := eSt_cases (eR_P hR).2.2
    have hE : ¬e = E0 := fun h => by rw [h] at hC; simp [E0] at hC
    have hr : ∀ {S : Stp}, GS e d S → ¬S.e.st = 0 → eR S.e = true := fun h hn => by
      rcases h.1 with h | h
      · rw [h] at hn; exact absurd rfl hn
      · exact h.1
    have fin : ¬(c = [48, 48] ∧ e.ca = 1) := fun ⟨h6, h7⟩ => by
      have h8 := hca h7
      by_cases h9 : e.st = 1
      · rw [hc1 h9] at h6; cases h6
      · rw [hc2 h9, h8] at h6; cases h6
    have same : OInv n e c (a, b, q) := .inr ⟨hR, ha, hc1, hc2, hb, hb1, hq, hq1, hca⟩
    have c94 : e.code = [57, 52] → c = e.code := fun h => by
      by_cases h9 : e.st = 1
      · rcases hC with h' | h' | h' | h'
        · rw [h'.2.1] at h; cases h
        · omega
        · omega
        · omega
      · exact hc2 h9
    rcases vR_five h2 with rfl | rfl | rfl | rfl | rfl
    · by_cases ho : oddE e d = true
      · have hs : stpK e 1 d n = ⟨e, [tA d [57, 52]], [], 0, false⟩ := by simp [stpK, stAsk, hE, ho]
        rw [hs]
        exact ⟨c, foA_1 (stA_odd (fun h => .inl ((c94 h).trans h)) c94), same, fin⟩
      · by_cases h6 : e.st = 1
        · have hs : stpK e 1 d n = ⟨e, [], [], 0, false⟩ := by simp [stpK, stAsk, hE, ho, h6]
          rw [hs]
          exact ⟨c, rfl, same, fin⟩
        · have hs : stpK e 1 d n = ⟨e, [tA d e.code], [], 0, false⟩ := by simp [stpK, stAsk, hE, ho, h6]
          rw [hs]
          refine ⟨c, foA_1 ?_, same, fin⟩
          rw [hc2 h6]
          exact stA_same
    · by_cases h6 : e.st = 1
      · have hs : stpK e 2 d n = ⟨{ e with st := if d.code = [48, 48] then 2 else 3, code := d.code }, [tA d d.code], [], 2, false⟩ := by simp [stpK, stAns, h6]
        rw [hs] at hGS ⊢
        have h7 : e.tr = 0 ∧ e.ca = 0 := by
          rcases hC with h' | h' | h' | h'
          · exact h'.2.2
          · omega
          · omega
          · omega
        have hst : (if d.code = [48, 48] then (2 : Int) else 3) = 2 ∨ (if d.code = [48, 48] then (2 : Int) else 3) = 3 := by split; exact .inl rfl; exact .inr rfl
        have hr2 := hr hGS (by show ¬(if d.code = [48, 48] then (2 : Int) else 3) = 0; omega)
        rw [hc1 h6]
        refine ⟨d.code, foA_1 (stA_new rfl), .inr ⟨hr2, ha, fun h => ?_, fun _ => rfl, fun _ => hb (by omega), hb1, hq, hq1, fun h => ?_⟩, fun h => ?_⟩
        · have h : (if d.code = [48, 48] then (2 : Int) else 3) = 1 := h
          omega
        · have h : e.ca = 1 := h
          omega
        · have h : e.ca = 1 := h.2
          omega
      · have hs : stpK e 2 d n = ⟨e, [], [], 0, false⟩ := by simp [stpK, stAns, h6]
        rw [hs]
        exact ⟨c, rfl, same, fin⟩
    · by_cases ho : oddE e d = true
      · have hs : stpK e 3 d n = ⟨e, [tU d [57, 52]], [], 0, false⟩ := by simp [stpK, stUndo, hE, ho]
        rw [hs]
        exact ⟨c, foA_1 stA_U, same, fin⟩
      · by_cases h6 : e.st = 1
        · have hs : stpK e 3 d n = ⟨rev e [49, 55] 2, [tA d [49, 55], tU d [48, 48]], [tI 5 e d], 1, false⟩ := by simp [stpK, stUndo, hE, ho, h6]
          rw [hs] at hGS ⊢
          have hr2 := hr hGS (by show ¬(4 : Int) = 0; decide)
          have hb0 := hb (by omega)
          rw [hc1 h6]
          refine ⟨[49, 55], foA_2 (stA_new rfl) stA_U, .inr ⟨hr2, by simpa [foI, tI] using ha, fun h => (by cases h), fun _ => rfl, fun h => ?_, by simp [foI, tI, hb0], by simpa [foI, tI, rev] using hq, hq1, fun h => by cases h⟩, fun h => by cases h.1⟩
          have h : (4 : Int) ≤ 3 := h
          omega
        · by_cases h7 : e.st = 2
          · have hs : stpK e 3 d n = ⟨rev e e.code 2, [tU d [48, 48]], [tI 5 e d], 1, false⟩ := by simp [stpK, stUndo, hE, ho, h7]
            rw [hs] at hGS ⊢
            have hr2 := hr hGS (by show ¬(4 : Int) = 0; decide)
            have hb0 := hb (by omega)
            refine ⟨c, foA_1 stA_U, .inr ⟨hr2, by simpa [foI, tI] using ha, fun h => (by cases h), fun _ => hc2 h6, fun h => ?_, by simp [foI, tI, hb0], by simpa [foI, tI, rev] using hq, hq1, fun h => by cases h⟩, fun h => by cases h.2⟩
            have h : (4 : Int) ≤ 3 := h
            omega
          · have hs : stpK e 3 d n = ⟨e, [tU d [48, 48]], [], 0, false⟩ := by simp [stpK, stUndo, hE, ho, h6, h7]
            rw [hs]
            exact ⟨c, foA_1 stA_U, same, fin⟩
    · by_cases h6 : e.st = 1
      · have hs : stpK e 4 d n = ⟨rev e [54, 56] 1, [tA d [54, 56]], [tI 5 e d], 1, false⟩ := by simp [stpK, stTime, h6]
        rw [hs] at hGS ⊢
        have hr2 := hr hGS (by show ¬(4 : Int) = 0; decide)
        have hb0 := hb (by omega)
        rw [hc1 h6]
        refine ⟨[54, 56], foA_1 (stA_new rfl), .inr ⟨hr2, by simpa [foI, tI] using ha, fun h => (by cases h), fun _ => rfl, fun h => ?_, by simp [foI, tI, hb0], by simpa [foI, tI, rev] using hq, hq1, fun _ => rfl⟩, fun h => by cases h.1⟩
        have h : (4 : Int) ≤ 3 := h
        omega
      · by_cases h7 : e.st = 4
        · by_cases h8 : e.tr < n
          · have hs : stpK e 4 d n = ⟨{ e with tr := e.tr + 1 }, [], [tI 6 e d], 1, false⟩ := by simp [stpK, stTime, h7, h8]
            rw [hs] at hGS ⊢
            have hr2 := hr hGS (by show ¬e.st = 0; omega)
            exact ⟨c, rfl, .inr ⟨hr2, by simpa [foI, tI] using ha, hc1, hc2, fun h => by (have h : e.st ≤ 3 := h); omega, by simpa [foI, tI] using hb1, by simp [foI, tI, hq], by show e.tr + 1 ≤ n; omega, hca⟩, fin⟩
          · have hs : stpK e 4 d n = ⟨{ e with st := 6 }, [], [], 0, true⟩ := by simp [stpK, stTime, h7, h8]
            rw [hs] at hGS ⊢
            have hr2 := hr hGS (by show ¬(6 : Int) = 0; decide)
            exact ⟨c, rfl, .inr ⟨hr2, ha, fun h => (by cases h), fun _ => hc2 h6, fun h => by (have h : (6 : Int) ≤ 3 := h); omega, hb1, hq, hq1, hca⟩, fin⟩
        · have hs : stpK e 4 d n = ⟨e, [], [], 0, false⟩ := by simp [stpK, stTime, h6, h7]
          rw [hs]
          exact ⟨c, rfl, same, fin⟩
    · by_cases h6 : e.st = 4
      · have hs : stpK e 5 d n = ⟨{ e with st := 5 }, [], [], 2, false⟩ := by simp [stpK, stAck, h6]
        rw [hs] at hGS ⊢
        have hr2 := hr hGS (by show ¬(5 : Int) = 0; decide)
        exact ⟨c, rfl, .inr ⟨hr2, ha, fun h => (by cases h), fun _ => hc2 (by omega), fun h => by (have h : (5 : Int) ≤ 3 := h); omega, hb1, hq, hq1, hca⟩, fin⟩
      · by_cases h7 : e.st = 6
        · have hs : stpK e 5 d n = ⟨{ e with st := 5 }, [], [], 0, false⟩ := by simp [stpK, stAck, h7]
          rw [hs] at hGS ⊢
          have hr2 := hr hGS (by show ¬(5 : Int) = 0; decide)
          exact ⟨c, rfl, .inr ⟨hr2, ha, fun h => (by cases h), fun _ => hc2 (by omega), fun h => by (have h : (5 : Int) ≤ 3 := h); omega, hb1, hq, hq1, hca⟩, fin⟩
        · have hs : stpK e 5 d n = ⟨e, [], [], 0, false⟩ := by simp [stpK, stAck, h6, h7]
          rw [hs]
          exact ⟨c, rfl, same, fin⟩
end Go.Vd

/- The core's laws: CoreOnce. -/
set_option linter.unusedVariables false
set_option linter.unusedSimpArgs false
set_option maxRecDepth 100000
set_option maxHeartbeats 8000000
namespace Go.Vd
open Go.Proofs
abbrev Ev := Int × Dl
def eV : En Ev := fun A x => [.int .i64 (A.ti fun _ => (x ()).1), .int .i64 (A.ti fun _ => (x ()).2.k), .str (A.ts fun _ => (x ()).2.pan), .int .u64 (A.ti fun _ => (x ()).2.am), .int .u32 (A.ti fun _ => (x ()).2.s), .str (A.ts fun _ => (x ()).2.r), .str (A.ts fun _ => (x ()).2.code)]
theorem oinv_len {n : Int} {e : Ent} {c : List UInt8} {t : Int × Int × Int} (h : OInv n e c t) : e.pan.length ≤ 100000 ∧ e.code.length ≤ 1000000 := by
  rcases h with h | h
  · exact lens_of (P := True) (.inl h.1)
  · exact lens_of (P := True) (.inr ⟨h.1, trivial⟩)
theorem oinv_bd {n : Int} {e : Ent} {c : List UInt8} {a b q : Int} (h0 : 0 ≤ n) (h : OInv n e c (a, b, q)) : (0 ≤ a ∧ a ≤ 1) ∧ (0 ≤ b ∧ b ≤ 1) ∧ 0 ≤ q ∧ q ≤ n := by
  rcases h with ⟨_, _, h⟩ | ⟨hR, ha, _, _, _, hb, hq, hq1, _⟩
  · simp only [Prod.mk.injEq] at h
    omega
  · simp only at ha hb hq
    have ht : 0 ≤ e.tr := by
      rcases eSt_cases (eR_P hR).2.2 with h' | h' | h' | h'
      · omega
      · omega
      · omega
      · omega
    omega
theorem dropD {L : List Dl} {j : Nat} {z : Dl} (h : j < L.length) : L.drop j = L.getD j z :: L.drop (j + 1) := by
  rw [List.drop_eq_getElem_cons h, List.getD_eq_getElem?_getD, List.getElem?_eq_getElem h]
  rfl
def fI1 (x : Dl) (t : Int × Int × Int) : Int × Int × Int := if x.k = 1 then (t.1 + 1, t.2.1, t.2.2) else if x.k = 5 then (t.1, t.2.1 + 1, t.2.2) else if x.k = 6 then (t.1, t.2.1, t.2.2 + 1) else t
theorem foI_cons {x : Dl} {l : List Dl} {t : Int × Int × Int} : foI (x :: l) t = foI l (fI1 x t) := rfl
theorem fI1_bd {x : Dl} {t : Int × Int × Int} {m : Int} (h : (0 ≤ t.1 ∧ t.1 ≤ m) ∧ (0 ≤ t.2.1 ∧ t.2.1 ≤ m) ∧ 0 ≤ t.2.2 ∧ t.2.2 ≤ m) : (0 ≤ (fI1 x t).1 ∧ (fI1 x t).1 ≤ m + 1) ∧ (0 ≤ (fI1 x t).2.1 ∧ (fI1 x t).2.1 ≤ m + 1) ∧ 0 ≤ (fI1 x t).2.2 ∧ (fI1 x t).2.2 ≤ m + 1 := by
  unfold fI1
  split
  · simp only; omega
  · split
    · simp only; omega
    · split
      · simp only; omega
      · omega
abbrev X0 : Ev := (0, ⟨0, [], 0, 0, [], []⟩)
theorem good_CoreOnce (ks n : Int) (kr : List UInt8) (L : List Ev) : GoodP Tryd.prog gl0 13 [.agg [.int .u32 ks, .str kr], rowS eV (0, ⟨0, [], 0, 0, [], []⟩) 7 std (fun _ => L), .int .i64 n] (.bool true) := by
  refine fn_sound' (T := seatT) (G := gc6) (X := noX) seatT_ok gc6_ok noX_ok noI_ok mixed Tryd.func13 (.one) (fun A => [.agg [.int .u32 ks, .str kr], rowS eV (0, ⟨0, [], 0, 0, [], []⟩) 7 A (fun _ => L), .int .i64 n]) (fun A => .bool true) fun A hA => ?_
  cbv
  repeat' (first | with_reducible exact True.intro | with_reducible exact dr_ok hA (by kernel_rfl) | with_reducible refine And.intro ?_ ?_ | (intro hc; cbv))
  rotate_right
  all_goals first
    | (fail_if_success (refine Exists.intro ?_ ?_)
       subst hA
       simp [std_add, std_sub, std_mul, std_quo, std_rem, std_band, std_bor, std_bxor, std_shl, std_shr, std_eq, std_ne, std_lt, std_le, std_conv, std_not, std_beq, std_bne, std_ite, std_want, std_and2, std_sadd, std_seq, std_sne, std_slt, std_sle, std_sgt, std_sge, std_slen, std_sget, std_scut, std_ofNat, std_toNat, std_nsub, std_nadd, std_lenOf, std_nz, std_nneg, std_inb, std_upto, std_slt63, std_grow, std_imp, std_impN, std_tr, std_tb, std_ti, std_ts, std_tn, std_tp, std_nmin, std_makes, std_room, std_zeros, std_nilq, std_notq, std_eqi, std_eqn, std_eqb, std_eqs, std_eqv, std_cat, std_lst, std_rset, std_rcopy, std_shift, std_eqr, std_strOf, std_bytesOf, std_isB, std_zOf, zOf_int, std_isI, isI_int, std_getL, std_nmul, std_sOf, sOf_str, std_isS, isS_str] at *
       done)
    | skip
  have h0 : L.length ≤ 60 ∧ 0 ≤ n ∧ n ≤ 16 := by
    subst hA
    simp [std_add, std_sub, std_mul, std_quo, std_rem, std_band, std_bor, std_bxor, std_shl, std_shr, std_eq, std_ne, std_lt, std_le, std_conv, std_not, std_beq, std_bne, std_ite, std_want, std_and2, std_sadd, std_seq, std_sne, std_slt, std_sle, std_sgt, std_sge, std_slen, std_sget, std_scut, std_ofNat, std_toNat, std_nsub, std_nadd, std_lenOf, std_nz, std_nneg, std_inb, std_upto, std_slt63, std_grow, std_imp, std_impN, std_tr, std_tb, std_ti, std_ts, std_tn, std_tp, std_nmin, std_makes, std_room, std_zeros, std_nilq, std_notq, std_eqi, std_eqn, std_eqb, std_eqs, std_eqv, std_cat, std_lst, std_rset, std_rcopy, std_shift, std_eqr, std_strOf, std_bytesOf, std_isB, std_zOf, zOf_int, std_isI, isI_int, std_getL, std_nmul, std_sOf, sOf_str, std_isS, isS_str] at *
    omega
  refine ⟨⟨{x : Nat × Ent × List UInt8 × Int × Int × Int // x.1 ≤ L.length ∧ OInv n x.2.1 x.2.2.1 x.2.2.2}, fun b x => [(8, .str x.1.2.2.1), (9, .int .i64 x.1.2.2.2.1), (10, .int .i64 x.1.2.2.2.2.1), (11, .int .i64 x.1.2.2.2.2.2), (12, .int .i64 (x.1.1 : Nat))],
    fun b x => [(16, .box 64 [.int .u32 x.1.2.1.s, .str x.1.2.1.r, .int .i64 x.1.2.1.st, .str x.1.2.1.pan, .int .u64 x.1.2.1.am, .str x.1.2.1.code, .int .i64 x.1.2.1.tr, .int .i64 x.1.2.1.ca])], fun x => L.length - x.1.1, true⟩,
    ⟨⟨(0, E0, [], 0, 0, 0), by omega, .inl ⟨rfl, rfl, rfl⟩⟩, ?_⟩, ?_⟩
  · cbv
    subst hA
    simp [-List.getD_eq_getElem?_getD, std_add, std_sub, std_mul, std_quo, std_rem, std_band, std_bor, std_bxor, std_shl, std_shr, std_eq, std_ne, std_lt, std_le, std_conv, std_not, std_beq, std_bne, std_ite, std_want, std_and2, std_sadd, std_seq, std_sne, std_slt, std_sle, std_sgt, std_sge, std_slen, std_sget, std_scut, std_ofNat, std_toNat, std_nsub, std_nadd, std_lenOf, std_nz, std_nneg, std_inb, std_upto, std_slt63, std_grow, std_imp, std_impN, std_tr, std_tb, std_ti, std_ts, std_tn, std_tp, std_nmin, std_makes, std_room, std_zeros, std_nilq, std_notq, std_eqi, std_eqn, std_eqb, std_eqs, std_eqv, std_cat, std_lst, std_rset, std_rcopy, std_shift, std_eqr, std_strOf, std_bytesOf, std_isB, std_zOf, zOf_int, std_isI, isI_int, std_getL, std_nmul, std_sOf, sOf_str, std_isS, isS_str]
  · rintro ⟨⟨i, ⟨s, r, st, pan, am, code, tr, ca⟩, c, a, b, q⟩, hi, hI⟩
    simp only at hi hI
    have hlen := oinv_len hI
    simp only at hlen
    have hbd := oinv_bd h0.2.1 hI
    obtain ⟨X, hX⟩ : ∃ X, X = L.getD i X0 := ⟨_, rfl⟩
    have hX2 : L.getD i (0, ⟨0, [], 0, 0, [], []⟩) = X := hX.symm
    clear hX
    obtain ⟨S, hS⟩ : ∃ S, S = stp ⟨s, r, st, pan, am, code, tr, ca⟩ X.1 ⟨X.2.k, X.2.pan, X.2.am, ks, kr, X.2.code⟩ n := ⟨_, rfl⟩
    have hS2 : stp ⟨s, r, st, pan, am, code, tr, ca⟩ X.1 ⟨X.2.k, X.2.pan, X.2.am, ks, kr, X.2.code⟩ n = S := hS.symm
    have hG := @once_step n _ _ _ X.1 ⟨X.2.k, X.2.pan, X.2.am, ks, kr, X.2.code⟩ hI
    have hC := @core_steps ⟨s, r, st, pan, am, code, tr, ca⟩ X.1 ⟨X.2.k, X.2.pan, X.2.am, ks, kr, X.2.code⟩ n
    rw [hS2] at hG hC
    clear hS
    cbv
    repeat' (first | with_reducible exact True.intro | with_reducible exact dr_ok hA (by kernel_rfl) | with_reducible refine And.intro ?_ ?_ | (intro hc; cbv))
    all_goals first
      | (fail_if_success (refine Exists.intro ?_ ?_)
         clear hI hG hC
         subst hA
         simp [-List.getD_eq_getElem?_getD, std_add, std_sub, std_mul, std_quo, std_rem, std_band, std_bor, std_bxor, std_shl, std_shr, std_eq, std_ne, std_lt, std_le, std_conv, std_not, std_beq, std_bne, std_ite, std_want, std_and2, std_sadd, std_seq, std_sne, std_slt, std_sle, std_sgt, std_sge, std_slen, std_sget, std_scut, std_ofNat, std_toNat, std_nsub, std_nadd, std_lenOf, std_nz, std_nneg, std_inb, std_upto, std_slt63, std_grow, std_imp, std_impN, std_tr, std_tb, std_ti, std_ts, std_tn, std_tp, std_nmin, std_makes, std_room, std_zeros, std_nilq, std_notq, std_eqi, std_eqn, std_eqb, std_eqs, std_eqv, std_cat, std_lst, std_rset, std_rcopy, std_shift, std_eqr, std_strOf, std_bytesOf, std_isB, std_zOf, zOf_int, std_isI, isI_int, std_getL, std_nmul, std_sOf, sOf_str, std_isS, isS_str, hX2, hS2, lstOf_lit inj_eD, isRow_lit] at *
         first
           | done
           | omega
           | (have hd := hc.1; simp at hd; exact ⟨hlen, by omega, by omega, by omega⟩)
           | exact ⟨⟨by omega, by omega⟩, by omega⟩
           | trace_state)
      | (have hlt : i < L.length := by
           clear hI hG hC
           subst hA
           simp [-List.getD_eq_getElem?_getD, std_add, std_sub, std_mul, std_quo, std_rem, std_band, std_bor, std_bxor, std_shl, std_shr, std_eq, std_ne, std_lt, std_le, std_conv, std_not, std_beq, std_bne, std_ite, std_want, std_and2, std_sadd, std_seq, std_sne, std_slt, std_sle, std_sgt, std_sge, std_slen, std_sget, std_scut, std_ofNat, std_toNat, std_nsub, std_nadd, std_lenOf, std_nz, std_nneg, std_inb, std_upto, std_slt63, std_grow, std_imp, std_impN, std_tr, std_tb, std_ti, std_ts, std_tn, std_tp, std_nmin, std_makes, std_room, std_zeros, std_nilq, std_notq, std_eqi, std_eqn, std_eqb, std_eqs, std_eqv, std_cat, std_lst, std_rset, std_rcopy, std_shift, std_eqr, std_strOf, std_bytesOf, std_isB, std_zOf, zOf_int, std_isI, isI_int, std_getL, std_nmul, std_sOf, sOf_str, std_isS, isS_str, hX2, hS2] at * <;> omega
         obtain ⟨i', hi'⟩ : ∃ i', i' = i + 1 := ⟨_, rfl⟩
         refine ⟨⟨(i', ⟨s, r, st, pan, am, code, tr, ca⟩, c, a, b, q), by omega, hI⟩, ?_, show L.length - i' < L.length - i by omega⟩
         cbv
         subst hA
         simp [-List.getD_eq_getElem?_getD, std_add, std_sub, std_mul, std_quo, std_rem, std_band, std_bor, std_bxor, std_shl, std_shr, std_eq, std_ne, std_lt, std_le, std_conv, std_not, std_beq, std_bne, std_ite, std_want, std_and2, std_sadd, std_seq, std_sne, std_slt, std_sle, std_sgt, std_sge, std_slen, std_sget, std_scut, std_ofNat, std_toNat, std_nsub, std_nadd, std_lenOf, std_nz, std_nneg, std_inb, std_upto, std_slt63, std_grow, std_imp, std_impN, std_tr, std_tb, std_ti, std_ts, std_tn, std_tp, std_nmin, std_makes, std_room, std_zeros, std_nilq, std_notq, std_eqi, std_eqn, std_eqb, std_eqs, std_eqv, std_cat, std_lst, std_rset, std_rcopy, std_shift, std_eqr, std_strOf, std_bytesOf, std_isB, std_zOf, zOf_int, std_isI, isI_int, std_getL, std_nmul, std_sOf, sOf_str, std_isS, isS_str, hX2, hS2]
         exact (w64 (by omega)).trans (by omega))
      | skip
    have hy : i < L.length ∧ stpE ⟨s, r, st, pan, am, code, tr, ca⟩ X.1 ⟨X.2.k, X.2.pan, X.2.am, ks, kr, X.2.code⟩ n = 0 := by
      clear hI hG hC
      subst hA
      simp [-List.getD_eq_getElem?_getD, std_add, std_sub, std_mul, std_quo, std_rem, std_band, std_bor, std_bxor, std_shl, std_shr, std_eq, std_ne, std_lt, std_le, std_conv, std_not, std_beq, std_bne, std_ite, std_want, std_and2, std_sadd, std_seq, std_sne, std_slt, std_sle, std_sgt, std_sge, std_slen, std_sget, std_scut, std_ofNat, std_toNat, std_nsub, std_nadd, std_lenOf, std_nz, std_nneg, std_inb, std_upto, std_slt63, std_grow, std_imp, std_impN, std_tr, std_tb, std_ti, std_ts, std_tn, std_tp, std_nmin, std_makes, std_room, std_zeros, std_nilq, std_notq, std_eqi, std_eqn, std_eqb, std_eqs, std_eqv, std_cat, std_lst, std_rset, std_rcopy, std_shift, std_eqr, std_strOf, std_bytesOf, std_isB, std_zOf, zOf_int, std_isI, isI_int, std_getL, std_nmul, std_sOf, sOf_str, std_isS, isS_str, hX2, hS2] at *
      exact ⟨by assumption, by assumption⟩
    obtain ⟨hil, hy⟩ := hy
    have g2 := (hC hy).2.1
    have g3 := (hC hy).2.2.1
    obtain ⟨cF, hF, hO, hN⟩ := hG hy
    clear hG hC
    refine ⟨⟨{x : Nat × List UInt8 // x.1 ≤ S.a.length ∧ foA S.e (S.a.drop x.1) x.2 = some cF}, fun b x => [(8, .str x.1.2), (16, .int .i64 (x.1.1 : Nat))], fun b x => [], fun x => S.a.length - x.1.1, true⟩, ⟨⟨(0, c), by omega, by simpa using hF⟩, ?_⟩, ?_⟩
    · cbv
      subst hA
      simp [-List.getD_eq_getElem?_getD, std_add, std_sub, std_mul, std_quo, std_rem, std_band, std_bor, std_bxor, std_shl, std_shr, std_eq, std_ne, std_lt, std_le, std_conv, std_not, std_beq, std_bne, std_ite, std_want, std_and2, std_sadd, std_seq, std_sne, std_slt, std_sle, std_sgt, std_sge, std_slen, std_sget, std_scut, std_ofNat, std_toNat, std_nsub, std_nadd, std_lenOf, std_nz, std_nneg, std_inb, std_upto, std_slt63, std_grow, std_imp, std_impN, std_tr, std_tb, std_ti, std_ts, std_tn, std_tp, std_nmin, std_makes, std_room, std_zeros, std_nilq, std_notq, std_eqi, std_eqn, std_eqb, std_eqs, std_eqv, std_cat, std_lst, std_rset, std_rcopy, std_shift, std_eqr, std_strOf, std_bytesOf, std_isB, std_zOf, zOf_int, std_isI, isI_int, std_getL, std_nmul, std_sOf, sOf_str, std_isS, isS_str]
    · rintro ⟨⟨j, c1⟩, hj, hj2⟩
      simp only at hj hj2
      cbv
      repeat' (first | with_reducible exact True.intro | with_reducible exact dr_ok hA (by kernel_rfl) | with_reducible refine And.intro ?_ ?_ | (intro hc; cbv))
      all_goals first
        | (have hlt : j < S.a.length := by
             clear hI hj2 hO hF
             subst hA
             simp [-List.getD_eq_getElem?_getD, std_add, std_sub, std_mul, std_quo, std_rem, std_band, std_bor, std_bxor, std_shl, std_shr, std_eq, std_ne, std_lt, std_le, std_conv, std_not, std_beq, std_bne, std_ite, std_want, std_and2, std_sadd, std_seq, std_sne, std_slt, std_sle, std_sgt, std_sge, std_slen, std_sget, std_scut, std_ofNat, std_toNat, std_nsub, std_nadd, std_lenOf, std_nz, std_nneg, std_inb, std_upto, std_slt63, std_grow, std_imp, std_impN, std_tr, std_tb, std_ti, std_ts, std_tn, std_tp, std_nmin, std_makes, std_room, std_zeros, std_nilq, std_notq, std_eqi, std_eqn, std_eqb, std_eqs, std_eqv, std_cat, std_lst, std_rset, std_rcopy, std_shift, std_eqr, std_strOf, std_bytesOf, std_isB, std_zOf, zOf_int, std_isI, isI_int, std_getL, std_nmul, std_sOf, sOf_str, std_isS, isS_str, hX2, hS2] at * <;> omega
           obtain ⟨x, hx⟩ : ∃ x, x = S.a.getD j ⟨0, [], 0, 0, [], []⟩ := ⟨_, rfl⟩
           have hx2 : S.a.getD j ⟨0, [], 0, 0, [], []⟩ = x := hx.symm
           rw [dropD (z := ⟨0, [], 0, 0, [], []⟩) hlt, hx2, foA] at hj2
           clear hx
           first
             | (fail_if_success (refine Exists.intro ?_ ?_)
                clear hI hO hF hN
                subst hA
                simp [-List.getD_eq_getElem?_getD, std_add, std_sub, std_mul, std_quo, std_rem, std_band, std_bor, std_bxor, std_shl, std_shr, std_eq, std_ne, std_lt, std_le, std_conv, std_not, std_beq, std_bne, std_ite, std_want, std_and2, std_sadd, std_seq, std_sne, std_slt, std_sle, std_sgt, std_sge, std_slen, std_sget, std_scut, std_ofNat, std_toNat, std_nsub, std_nadd, std_lenOf, std_nz, std_nneg, std_inb, std_upto, std_slt63, std_grow, std_imp, std_impN, std_tr, std_tb, std_ti, std_ts, std_tn, std_tp, std_nmin, std_makes, std_room, std_zeros, std_nilq, std_notq, std_eqi, std_eqn, std_eqb, std_eqs, std_eqv, std_cat, std_lst, std_rset, std_rcopy, std_shift, std_eqr, std_strOf, std_bytesOf, std_isB, std_zOf, zOf_int, std_isI, isI_int, std_getL, std_nmul, std_sOf, sOf_str, std_isS, isS_str, hX2, hS2, hx2, lstOf_lit inj_eD, isRow_lit] at *
                first
                  | done
                  | omega
                  | (simp [stA] at hj2; grind)
                  | trace_state)
             | (cases hst : stA S.e c1 x with
                | none => rw [hst] at hj2; cases hj2
                | some c2 =>
                  rw [hst] at hj2
                  obtain ⟨j', hj'⟩ : ∃ j', j' = j + 1 := ⟨_, rfl⟩
                  refine ⟨⟨(j', c2), by omega, by rw [hj']; exact hj2⟩, ?_, show S.a.length - j' < S.a.length - j by omega⟩
                  cbv
                  clear hI hj2 hO hF hN hy
                  unfold stA at hst
                  subst hA
                  simp [-List.getD_eq_getElem?_getD, std_add, std_sub, std_mul, std_quo, std_rem, std_band, std_bor, std_bxor, std_shl, std_shr, std_eq, std_ne, std_lt, std_le, std_conv, std_not, std_beq, std_bne, std_ite, std_want, std_and2, std_sadd, std_seq, std_sne, std_slt, std_sle, std_sgt, std_sge, std_slen, std_sget, std_scut, std_ofNat, std_toNat, std_nsub, std_nadd, std_lenOf, std_nz, std_nneg, std_inb, std_upto, std_slt63, std_grow, std_imp, std_impN, std_tr, std_tb, std_ti, std_ts, std_tn, std_tp, std_nmin, std_makes, std_room, std_zeros, std_nilq, std_notq, std_eqi, std_eqn, std_eqb, std_eqs, std_eqv, std_cat, std_lst, std_rset, std_rcopy, std_shift, std_eqr, std_strOf, std_bytesOf, std_isB, std_zOf, zOf_int, std_isI, isI_int, std_getL, std_nmul, std_sOf, sOf_str, std_isS, isS_str, hX2, hS2, hx2] at *
                  refine ⟨?_, (w64 (by omega)).trans (by omega)⟩
                  first
                    | grind
                    | trace_state))
        | skip
      have hge : j = S.a.length := by
        clear hI hj2 hO hF
        subst hA
        simp [-List.getD_eq_getElem?_getD, std_add, std_sub, std_mul, std_quo, std_rem, std_band, std_bor, std_bxor, std_shl, std_shr, std_eq, std_ne, std_lt, std_le, std_conv, std_not, std_beq, std_bne, std_ite, std_want, std_and2, std_sadd, std_seq, std_sne, std_slt, std_sle, std_sgt, std_sge, std_slen, std_sget, std_scut, std_ofNat, std_toNat, std_nsub, std_nadd, std_lenOf, std_nz, std_nneg, std_inb, std_upto, std_slt63, std_grow, std_imp, std_impN, std_tr, std_tb, std_ti, std_ts, std_tn, std_tp, std_nmin, std_makes, std_room, std_zeros, std_nilq, std_notq, std_eqi, std_eqn, std_eqb, std_eqs, std_eqv, std_cat, std_lst, std_rset, std_rcopy, std_shift, std_eqr, std_strOf, std_bytesOf, std_isB, std_zOf, zOf_int, std_isI, isI_int, std_getL, std_nmul, std_sOf, sOf_str, std_isS, isS_str, hX2, hS2] at *
        omega
      have hc1 : c1 = cF := by
        rw [hge, List.drop_length, foA] at hj2
        exact Option.some.inj hj2
      subst hc1
      clear hj2 hF
      refine ⟨⟨{x : Nat × Int × Int × Int // x.1 ≤ S.i.length ∧ foI (S.i.drop x.1) x.2 = foI S.i (a, b, q) ∧ (0 ≤ x.2.1 ∧ x.2.1 ≤ 20 + x.1) ∧ (0 ≤ x.2.2.1 ∧ x.2.2.1 ≤ 20 + x.1) ∧ 0 ≤ x.2.2.2 ∧ x.2.2.2 ≤ 20 + x.1}, fun b x => [(9, .int .i64 x.1.2.1), (10, .int .i64 x.1.2.2.1), (11, .int .i64 x.1.2.2.2), (18, .int .i64 (x.1.1 : Nat))], fun b x => [], fun x => S.i.length - x.1.1, true⟩, ⟨⟨(0, a, b, q), by omega, by simp, by simp only; omega⟩, ?_⟩, ?_⟩
      · cbv
        subst hA
        simp [-List.getD_eq_getElem?_getD, std_add, std_sub, std_mul, std_quo, std_rem, std_band, std_bor, std_bxor, std_shl, std_shr, std_eq, std_ne, std_lt, std_le, std_conv, std_not, std_beq, std_bne, std_ite, std_want, std_and2, std_sadd, std_seq, std_sne, std_slt, std_sle, std_sgt, std_sge, std_slen, std_sget, std_scut, std_ofNat, std_toNat, std_nsub, std_nadd, std_lenOf, std_nz, std_nneg, std_inb, std_upto, std_slt63, std_grow, std_imp, std_impN, std_tr, std_tb, std_ti, std_ts, std_tn, std_tp, std_nmin, std_makes, std_room, std_zeros, std_nilq, std_notq, std_eqi, std_eqn, std_eqb, std_eqs, std_eqv, std_cat, std_lst, std_rset, std_rcopy, std_shift, std_eqr, std_strOf, std_bytesOf, std_isB, std_zOf, zOf_int, std_isI, isI_int, std_getL, std_nmul, std_sOf, sOf_str, std_isS, isS_str]
      · rintro ⟨⟨l, a1, b1, q1⟩, hl, hl2, hl3⟩
        simp only at hl hl2 hl3
        cbv
        repeat' (first | with_reducible exact True.intro | with_reducible exact dr_ok hA (by kernel_rfl) | with_reducible refine And.intro ?_ ?_ | (intro hc; cbv))
        all_goals first
          | (fail_if_success (refine Exists.intro ?_ ?_)
             clear hI hO hl2
             subst hA
             simp [-List.getD_eq_getElem?_getD, std_add, std_sub, std_mul, std_quo, std_rem, std_band, std_bor, std_bxor, std_shl, std_shr, std_eq, std_ne, std_lt, std_le, std_conv, std_not, std_beq, std_bne, std_ite, std_want, std_and2, std_sadd, std_seq, std_sne, std_slt, std_sle, std_sgt, std_sge, std_slen, std_sget, std_scut, std_ofNat, std_toNat, std_nsub, std_nadd, std_lenOf, std_nz, std_nneg, std_inb, std_upto, std_slt63, std_grow, std_imp, std_impN, std_tr, std_tb, std_ti, std_ts, std_tn, std_tp, std_nmin, std_makes, std_room, std_zeros, std_nilq, std_notq, std_eqi, std_eqn, std_eqb, std_eqs, std_eqv, std_cat, std_lst, std_rset, std_rcopy, std_shift, std_eqr, std_strOf, std_bytesOf, std_isB, std_zOf, zOf_int, std_isI, isI_int, std_getL, std_nmul, std_sOf, sOf_str, std_isS, isS_str, hX2, hS2, lstOf_lit inj_eD, isRow_lit] at *
             first
               | done
               | omega
               | (exact (hN hc.1 hc.2).elim)
               | grind
               | trace_state)
          | (have hlt : l < S.i.length := by
               clear hI hO hl2
               subst hA
               simp [-List.getD_eq_getElem?_getD, std_add, std_sub, std_mul, std_quo, std_rem, std_band, std_bor, std_bxor, std_shl, std_shr, std_eq, std_ne, std_lt, std_le, std_conv, std_not, std_beq, std_bne, std_ite, std_want, std_and2, std_sadd, std_seq, std_sne, std_slt, std_sle, std_sgt, std_sge, std_slen, std_sget, std_scut, std_ofNat, std_toNat, std_nsub, std_nadd, std_lenOf, std_nz, std_nneg, std_inb, std_upto, std_slt63, std_grow, std_imp, std_impN, std_tr, std_tb, std_ti, std_ts, std_tn, std_tp, std_nmin, std_makes, std_room, std_zeros, std_nilq, std_notq, std_eqi, std_eqn, std_eqb, std_eqs, std_eqv, std_cat, std_lst, std_rset, std_rcopy, std_shift, std_eqr, std_strOf, std_bytesOf, std_isB, std_zOf, zOf_int, std_isI, isI_int, std_getL, std_nmul, std_sOf, sOf_str, std_isS, isS_str, hX2, hS2] at * <;> omega
             obtain ⟨x, hx⟩ : ∃ x, x = S.i.getD l ⟨0, [], 0, 0, [], []⟩ := ⟨_, rfl⟩
             have hx2 : S.i.getD l ⟨0, [], 0, 0, [], []⟩ = x := hx.symm
             rw [dropD (z := ⟨0, [], 0, 0, [], []⟩) hlt, hx2, foI_cons] at hl2
             clear hx
             have hk : x.k = 1 ∨ (¬x.k = 1 ∧ x.k = 5) ∨ (¬x.k = 1 ∧ ¬x.k = 5 ∧ x.k = 6) ∨ (¬x.k = 1 ∧ ¬x.k = 5 ∧ ¬x.k = 6) := by omega
             have hl5 : (0 ≤ a1 ∧ a1 ≤ 20 + (l : Int)) ∧ (0 ≤ b1 ∧ b1 ≤ 20 + (l : Int)) ∧ 0 ≤ q1 ∧ q1 ≤ 20 + (l : Int) := hl3
             have hl6 : l ≤ 1 := by omega
             obtain ⟨j', hj'⟩ : ∃ j', j' = l + 1 := ⟨_, rfl⟩
             have hw : IntKind.i64.wrap ((l : Int) + 1) = (j' : Nat) := (w64 (by omega)).trans (by omega)
             have hwa : IntKind.i64.wrap (a1 + 1) = a1 + 1 := w64 (by omega)
             have hwb : IntKind.i64.wrap (b1 + 1) = b1 + 1 := w64 (by omega)
             have hwq : IntKind.i64.wrap (q1 + 1) = q1 + 1 := w64 (by omega)
             rcases hk with hk | ⟨hk1, hk⟩ | ⟨hk1, hk2, hk⟩ | ⟨hk1, hk2, hk⟩
             · have hf : fI1 x (a1, b1, q1) = (a1 + 1, b1, q1) := by simp [fI1, hk]
               rw [hf] at hl2
               refine ⟨⟨(j', a1 + 1, b1, q1), by omega, by rw [hj']; exact hl2, show (0 ≤ a1 + 1 ∧ a1 + 1 ≤ 20 + (j' : Int)) ∧ (0 ≤ b1 ∧ b1 ≤ 20 + (j' : Int)) ∧ 0 ≤ q1 ∧ q1 ≤ 20 + (j' : Int) by omega⟩, ?_, show S.i.length - j' < S.i.length - l by omega⟩
               cbv
               clear hI hO hN hy
               subst hA
               simp [-List.getD_eq_getElem?_getD, std_add, std_sub, std_mul, std_quo, std_rem, std_band, std_bor, std_bxor, std_shl, std_shr, std_eq, std_ne, std_lt, std_le, std_conv, std_not, std_beq, std_bne, std_ite, std_want, std_and2, std_sadd, std_seq, std_sne, std_slt, std_sle, std_sgt, std_sge, std_slen, std_sget, std_scut, std_ofNat, std_toNat, std_nsub, std_nadd, std_lenOf, std_nz, std_nneg, std_inb, std_upto, std_slt63, std_grow, std_imp, std_impN, std_tr, std_tb, std_ti, std_ts, std_tn, std_tp, std_nmin, std_makes, std_room, std_zeros, std_nilq, std_notq, std_eqi, std_eqn, std_eqb, std_eqs, std_eqv, std_cat, std_lst, std_rset, std_rcopy, std_shift, std_eqr, std_strOf, std_bytesOf, std_isB, std_zOf, zOf_int, std_isI, isI_int, std_getL, std_nmul, std_sOf, sOf_str, std_isS, isS_str, hX2, hS2, hx2] at *
               first
                 | done
                 | omega
                 | exact ⟨hwa, hw⟩
                 | exact ⟨hwb, hw⟩
                 | exact ⟨hwq, hw⟩
                 | exact hw
                 | (simp [*]; done)
                 | trace_state
             · have hf : fI1 x (a1, b1, q1) = (a1, b1 + 1, q1) := by simp [fI1, hk]
               rw [hf] at hl2
               refine ⟨⟨(j', a1, b1 + 1, q1), by omega, by rw [hj']; exact hl2, show (0 ≤ a1 ∧ a1 ≤ 20 + (j' : Int)) ∧ (0 ≤ b1 + 1 ∧ b1 + 1 ≤ 20 + (j' : Int)) ∧ 0 ≤ q1 ∧ q1 ≤ 20 + (j' : Int) by omega⟩, ?_, show S.i.length - j' < S.i.length - l by omega⟩
               cbv
               clear hI hO hN hy
               subst hA
               simp [-List.getD_eq_getElem?_getD, std_add, std_sub, std_mul, std_quo, std_rem, std_band, std_bor, std_bxor, std_shl, std_shr, std_eq, std_ne, std_lt, std_le, std_conv, std_not, std_beq, std_bne, std_ite, std_want, std_and2, std_sadd, std_seq, std_sne, std_slt, std_sle, std_sgt, std_sge, std_slen, std_sget, std_scut, std_ofNat, std_toNat, std_nsub, std_nadd, std_lenOf, std_nz, std_nneg, std_inb, std_upto, std_slt63, std_grow, std_imp, std_impN, std_tr, std_tb, std_ti, std_ts, std_tn, std_tp, std_nmin, std_makes, std_room, std_zeros, std_nilq, std_notq, std_eqi, std_eqn, std_eqb, std_eqs, std_eqv, std_cat, std_lst, std_rset, std_rcopy, std_shift, std_eqr, std_strOf, std_bytesOf, std_isB, std_zOf, zOf_int, std_isI, isI_int, std_getL, std_nmul, std_sOf, sOf_str, std_isS, isS_str, hX2, hS2, hx2] at *
               first
                 | done
                 | omega
                 | exact ⟨hwa, hw⟩
                 | exact ⟨hwb, hw⟩
                 | exact ⟨hwq, hw⟩
                 | exact hw
                 | (simp [*]; done)
                 | trace_state
             · have hf : fI1 x (a1, b1, q1) = (a1, b1, q1 + 1) := by simp [fI1, hk]
               rw [hf] at hl2
               refine ⟨⟨(j', a1, b1, q1 + 1), by omega, by rw [hj']; exact hl2, show (0 ≤ a1 ∧ a1 ≤ 20 + (j' : Int)) ∧ (0 ≤ b1 ∧ b1 ≤ 20 + (j' : Int)) ∧ 0 ≤ q1 + 1 ∧ q1 + 1 ≤ 20 + (j' : Int) by omega⟩, ?_, show S.i.length - j' < S.i.length - l by omega⟩
               cbv
               clear hI hO hN hy
               subst hA
               simp [-List.getD_eq_getElem?_getD, std_add, std_sub, std_mul, std_quo, std_rem, std_band, std_bor, std_bxor, std_shl, std_shr, std_eq, std_ne, std_lt, std_le, std_conv, std_not, std_beq, std_bne, std_ite, std_want, std_and2, std_sadd, std_seq, std_sne, std_slt, std_sle, std_sgt, std_sge, std_slen, std_sget, std_scut, std_ofNat, std_toNat, std_nsub, std_nadd, std_lenOf, std_nz, std_nneg, std_inb, std_upto, std_slt63, std_grow, std_imp, std_impN, std_tr, std_tb, std_ti, std_ts, std_tn, std_tp, std_nmin, std_makes, std_room, std_zeros, std_nilq, std_notq, std_eqi, std_eqn, std_eqb, std_eqs, std_eqv, std_cat, std_lst, std_rset, std_rcopy, std_shift, std_eqr, std_strOf, std_bytesOf, std_isB, std_zOf, zOf_int, std_isI, isI_int, std_getL, std_nmul, std_sOf, sOf_str, std_isS, isS_str, hX2, hS2, hx2] at *
               first
                 | done
                 | omega
                 | exact ⟨hwa, hw⟩
                 | exact ⟨hwb, hw⟩
                 | exact ⟨hwq, hw⟩
                 | exact hw
                 | (simp [*]; done)
                 | trace_state
             · have hf : fI1 x (a1, b1, q1) = (a1, b1, q1) := by simp [fI1, hk1, hk2, hk]
               rw [hf] at hl2
               refine ⟨⟨(j', a1, b1, q1), by omega, by rw [hj']; exact hl2, show (0 ≤ a1 ∧ a1 ≤ 20 + (j' : Int)) ∧ (0 ≤ b1 ∧ b1 ≤ 20 + (j' : Int)) ∧ 0 ≤ q1 ∧ q1 ≤ 20 + (j' : Int) by omega⟩, ?_, show S.i.length - j' < S.i.length - l by omega⟩
               cbv
               clear hI hO hN hy
               subst hA
               simp [-List.getD_eq_getElem?_getD, std_add, std_sub, std_mul, std_quo, std_rem, std_band, std_bor, std_bxor, std_shl, std_shr, std_eq, std_ne, std_lt, std_le, std_conv, std_not, std_beq, std_bne, std_ite, std_want, std_and2, std_sadd, std_seq, std_sne, std_slt, std_sle, std_sgt, std_sge, std_slen, std_sget, std_scut, std_ofNat, std_toNat, std_nsub, std_nadd, std_lenOf, std_nz, std_nneg, std_inb, std_upto, std_slt63, std_grow, std_imp, std_impN, std_tr, std_tb, std_ti, std_ts, std_tn, std_tp, std_nmin, std_makes, std_room, std_zeros, std_nilq, std_notq, std_eqi, std_eqn, std_eqb, std_eqs, std_eqv, std_cat, std_lst, std_rset, std_rcopy, std_shift, std_eqr, std_strOf, std_bytesOf, std_isB, std_zOf, zOf_int, std_isI, isI_int, std_getL, std_nmul, std_sOf, sOf_str, std_isS, isS_str, hX2, hS2, hx2] at *
               first
                 | done
                 | omega
                 | exact ⟨hwa, hw⟩
                 | exact ⟨hwb, hw⟩
                 | exact ⟨hwq, hw⟩
                 | exact hw
                 | (simp [*]; done)
                 | trace_state)
          | (have hge2 : l = S.i.length := by
               clear hI hO hl2
               subst hA
               simp [-List.getD_eq_getElem?_getD, std_add, std_sub, std_mul, std_quo, std_rem, std_band, std_bor, std_bxor, std_shl, std_shr, std_eq, std_ne, std_lt, std_le, std_conv, std_not, std_beq, std_bne, std_ite, std_want, std_and2, std_sadd, std_seq, std_sne, std_slt, std_sle, std_sgt, std_sge, std_slen, std_sget, std_scut, std_ofNat, std_toNat, std_nsub, std_nadd, std_lenOf, std_nz, std_nneg, std_inb, std_upto, std_slt63, std_grow, std_imp, std_impN, std_tr, std_tb, std_ti, std_ts, std_tn, std_tp, std_nmin, std_makes, std_room, std_zeros, std_nilq, std_notq, std_eqi, std_eqn, std_eqb, std_eqs, std_eqv, std_cat, std_lst, std_rset, std_rcopy, std_shift, std_eqr, std_strOf, std_bytesOf, std_isB, std_zOf, zOf_int, std_isI, isI_int, std_getL, std_nmul, std_sOf, sOf_str, std_isS, isS_str, hX2, hS2] at * <;> omega
             rw [hge2, List.drop_length] at hl2
             have hl4 : (a1, b1, q1) = foI S.i (a, b, q) := hl2
             rw [← hl4] at hO
             obtain ⟨i', hi'⟩ : ∃ i', i' = i + 1 := ⟨_, rfl⟩
             refine ⟨⟨(i', S.e, c1, a1, b1, q1), by omega, hO⟩, ?_, show L.length - i' < L.length - i by omega⟩
             cbv
             clear hl2 hl4
             subst hA
             simp [-List.getD_eq_getElem?_getD, std_add, std_sub, std_mul, std_quo, std_rem, std_band, std_bor, std_bxor, std_shl, std_shr, std_eq, std_ne, std_lt, std_le, std_conv, std_not, std_beq, std_bne, std_ite, std_want, std_and2, std_sadd, std_seq, std_sne, std_slt, std_sle, std_sgt, std_sge, std_slen, std_sget, std_scut, std_ofNat, std_toNat, std_nsub, std_nadd, std_lenOf, std_nz, std_nneg, std_inb, std_upto, std_slt63, std_grow, std_imp, std_impN, std_tr, std_tb, std_ti, std_ts, std_tn, std_tp, std_nmin, std_makes, std_room, std_zeros, std_nilq, std_notq, std_eqi, std_eqn, std_eqb, std_eqs, std_eqv, std_cat, std_lst, std_rset, std_rcopy, std_shift, std_eqr, std_strOf, std_bytesOf, std_isB, std_zOf, zOf_int, std_isI, isI_int, std_getL, std_nmul, std_sOf, sOf_str, std_isS, isS_str, hX2, hS2]
             first
               | exact (w64 (by omega)).trans (by omega)
               | trace_state)
          | trace_state
end Go.Vd
