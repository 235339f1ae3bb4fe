/- The operations on leaves, all at once. -/
import Derived.Test.YtakcggldilbilaaDoorVdSimp
import Derived.Test.YtakcggldilbilaaDoorVdM5
import Derived.Test.YtakcggldilbilaaDoorVdO4
namespace Go.Vd
/-- All of these at once. -/
theorem sS : (∀ k a b, std.add k a b = (k.wrap (a + b))) ∧ (∀ k a b, std.sub k a b = (k.wrap (a - b))) ∧ (∀ k a b, std.mul k a b = (k.wrap (a * b))) ∧ (∀ k a b, std.quo k a b = (k.wrap (a.tdiv b))) ∧ (∀ a b, std.rem a b = (a.tmod b)) ∧ (∀ k a b, std.band k a b = (bits .and k a b)) ∧ (∀ k a b, std.bor k a b = (bits .or k a b)) ∧ (∀ k a b, std.bxor k a b = (bits .xor k a b)) ∧ (∀ k a b, std.shl k a b = (k.wrap (a * 2 ^ (min b.toNat k.bits)))) ∧ (∀ k a b, std.shr k a b = (a.fdiv (2 ^ (min b.toNat k.bits)))) ∧ (∀ a b, std.eq a b = (a == b)) ∧ (∀ a b, std.ne a b = (a != b)) ∧ (∀ a b, std.lt a b = (decide (a < b))) ∧ (∀ a b, std.le a b = (decide (a ≤ b))) ∧ (∀ k n, std.conv k n = (k.wrap n)) ∧ (∀ b, std.not b = (!b)) ∧ (∀ a b, std.beq a b = (a == b)) ∧ (∀ a b, std.bne a b = (!(a == b))) ∧ (∀ c p q, std.ite c p q = (bif c then p else q)) ∧ (∀ c d w, std.want c d w = (c && (d == w))) ∧ (∀ a b, std.and2 a b = (a && b)) ∧ (∀ a b, std.sadd a b = (a ++ b)) ∧ (∀ a b, std.seq a b = (a == b)) ∧ (∀ a b, std.sne a b = (!(a == b))) ∧ (∀ a b, std.slt a b = (Op.bytesLess a b)) ∧ (∀ a b, std.sle a b = (Op.bytesLess a b || (a == b))) ∧ (∀ a b, std.sgt a b = (!(Op.bytesLess a b || (a == b)))) ∧ (∀ a b, std.sge a b = (!Op.bytesLess a b)) ∧ (∀ s, std.slen s = ((s.length : Int))) ∧ (∀ s i, std.sget s i = (((s[i.toNat]?.getD 0).toNat : Int))) ∧ (∀ s a b, std.scut s a b = ((s.take b.toNat).drop a.toNat)) ∧ (∀ n, std.ofNat n = ((n : Int))) ∧ (∀ i, std.toNat i = (i.toNat)) ∧ (∀ a b, std.nsub a b = (a - b)) ∧ (∀ a b, std.nadd a b = (a + b)) ∧ (∀ l, std.lenOf l = (l.length)) ∧ (∀ b, std.nz b = (b ≠ 0)) ∧ (∀ b, std.nneg b = (0 ≤ b)) ∧ (∀ i n, std.inb i n = (0 ≤ i ∧ i < (n : Int))) ∧ (∀ a b, std.upto a b = (a ≤ b)) ∧ (∀ a b, std.slt63 a b = (a.length + b.length ≤ 9223372036854775807)) ∧ (∀ n m b, std.grow n m b = (n + m ≤ 9223372036854775807 ∧ (n + m) * b ≤ 140737488355328)) ∧ (∀ c p, std.imp c p = (c = true → p)) ∧ (∀ c p, std.impN c p = (c = false → p)) ∧ (∀ c, std.tr c = (c = true)) ∧ (∀ f, std.tb f = (f ())) ∧ (∀ f, std.ti f = (f ())) ∧ (∀ f, std.ts f = (f ())) ∧ (∀ f, std.tn f = (f ())) ∧ (∀ f, std.tp f = (f ())) ∧ (∀ a b, std.nmin a b = (Nat.min a b)) ∧ (∀ a b by_, std.makes a b by_ = (0 ≤ a ∧ a ≤ b ∧ b ≤ 9223372036854775807 ∧ b.toNat * by_ ≤ 140737488355328)) ∧ (∀ b m n, std.room b m n = (0 < n ∧ b + m ≤ n)) ∧ (∀ z by_, std.zeros z by_ = (0 < z ∧ z ≤ 4611686018427387904 ∧ z.toNat * by_ ≤ 140737488355328)) ∧ (∀ b n, std.nilq b n = (b = true → n = 0)) ∧ (∀ b n, std.notq b n = (b = false → n = 0)) ∧ (∀ a b, std.eqi a b = (a = b)) ∧ (∀ a b, std.eqn a b = (a = b)) ∧ (∀ a b, std.eqb a b = (a = b)) ∧ (∀ a b, std.eqs a b = (a = b)) ∧ (∀ a b, std.eqv a b = (a = b)) ∧ (∀ n f g, std.cat n f g = catS n f g) ∧ (∀ l, std.lst l = lstS l) ∧ (∀ f i off l, std.rset f i off l = rsetS f i off l) ∧ (∀ f lo m g, std.rcopy f lo m g = rcopyS f lo m g) ∧ (∀ f lo, std.shift f lo = shiftS f lo) ∧ (∀ n k f g, std.eqr n k f g = eqrS n k f g) ∧ (∀ n f, std.strOf n f = strOfS n f) ∧ (∀ l, std.bytesOf l = bytesOfS l) ∧ (∀ n f, std.isB n f = isBS n f) ∧ (∀ s, std.zOf s = zOfS s) ∧ (∀ k n, zOfS (.int k n) = n) ∧ (∀ k s, std.isI k s = isIS k s) ∧ (∀ k n, isIS k (.int k n)) ∧ (∀ l n, std.getL l n = getAt l n) ∧ (∀ a b, std.nmul a b = a * b) ∧ (∀ s, std.sOf s = sOfS s) ∧ (∀ l, sOfS (.str l) = l) ∧ (∀ s, std.isS s = isSS s) ∧ (∀ l, isSS (.str l)) := ⟨@std_add, @std_sub, @std_mul, @std_quo, @std_rem, @std_band, @std_bor, @std_bxor, @std_shl, @std_shr, @std_eq, @std_ne, @std_lt, @std_le, @std_conv, @std_not, @std_beq, @std_bne, @std_ite, @std_want, @std_and2, @std_sadd, @std_seq, @std_sne, @std_slt, @std_sle, @std_sgt, @std_sge, @std_slen, @std_sget, @std_scut, @std_ofNat, @std_toNat, @std_nsub, @std_nadd, @std_lenOf, @std_nz, @std_nneg, @std_inb, @std_upto, @std_slt63, @std_grow, @std_imp, @std_impN, @std_tr, @std_tb, @std_ti, @std_ts, @std_tn, @std_tp, @std_nmin, @std_makes, @std_room, @std_zeros, @std_nilq, @std_notq, @std_eqi, @std_eqn, @std_eqb, @std_eqs, @std_eqv, @std_cat, @std_lst, @std_rset, @std_rcopy, @std_shift, @std_eqr, @std_strOf, @std_bytesOf, @std_isB, @std_zOf, @zOf_int, @std_isI, @isI_int, @std_getL, @std_nmul, @std_sOf, @sOf_str, @std_isS, @isS_str⟩
end Go.Vd

/- Messages: the reference's functions. -/
set_option linter.unusedVariables false
set_option linter.unusedSimpArgs false
set_option maxRecDepth 100000
set_option maxHeartbeats 8000000
namespace Go.Vd
open Go.Proofs
theorem s_rep (L : List (List UInt8)) : Reps eS [] 1 L.length (lstS (L.map fun z => [SV.str z])) L := by
  have h : All2 (fun c x => ∀ j, j < 1 → Ceq (getAt c j) (getAt (eS std fun _ => x) j)) (L.map fun z => [SV.str z]) L := by
    induction L with
    | nil => trivial
    | cons x l ih => exact ⟨cell_eS x, ih⟩
  have := Reps.lst (d := ([] : List UInt8)) h
  rw [List.length_map] at this
  exact this
def knL : List (List UInt8) := [[48, 49, 48, 48], [48, 49, 49, 48], [48, 52, 48, 48], [48, 52, 49, 48], [48, 52, 50, 48], [48, 52, 50, 49], [48, 52, 51, 48]]
theorem kn_yes {K : List (List UInt8)} (hK : K = knL) {s : List UInt8} {i : Nat} (hi : i < K.length) (h : K.getD i [] = s) : mT s = true := by
  subst hK
  subst h
  have h : ∀ i : Fin 7, mT (knL.getD i.val []) = true := by decide
  exact h ⟨i, hi⟩
theorem kn_no {K : List (List UInt8)} (hK : K = knL) {s : List UInt8} (h : ∀ j, j < K.length → ¬K.getD j [] = s) : mT s = false := by
  subst hK
  rw [Bool.eq_false_iff]
  intro e
  unfold mT at e
  simp only [List.contains_eq_mem, List.mem_cons, List.not_mem_nil, or_false, decide_eq_true_eq] at e
  rcases e with rfl | rfl | rfl | rfl | rfl | rfl | rfl
  · exact h 0 (by decide) rfl
  · exact h 1 (by decide) rfl
  · exact h 2 (by decide) rfl
  · exact h 3 (by decide) rfl
  · exact h 4 (by decide) rfl
  · exact h 5 (by decide) rfl
  · exact h 6 (by decide) rfl
theorem good_rKnown (s : List UInt8) : GoodP Tryd.prog gl0 73 [.str s] (.bool (std.tb fun _ => mT s)) := by
  refine fn_sound' (T := seatT) (G := noC) (X := noX) seatT_ok noC_ok noX_ok noI_ok mixed Tryd.func73 (.one) (fun A => [.str s]) (fun A => .bool (A.tb fun _ => mT s)) fun A hA => ?_
  obtain ⟨K, hK⟩ : ∃ K, K = knL := ⟨_, rfl⟩
  have hl : K.length = 7 := by subst hK; rfl
  cbv
  repeat' (first | with_reducible exact True.intro | with_reducible exact dr_ok hA (by kernel_rfl) | with_reducible refine And.intro ?_ ?_ | (intro hc; cbv))
  refine ⟨⟨{i : Nat // i ≤ K.length ∧ ∀ j, j < i → ¬K.getD j [] = s}, fun b i => [(4, .int .i64 (i.1 : Nat)), (3, rowS eS [] 1 A fun _ => K)], fun b i => [], fun i => K.length - i.1, true⟩, ⟨⟨0, by omega, fun j hj => absurd hj (by omega)⟩, ?_⟩, ?_⟩
  · cbv
    subst hA
    have h := s_rep K
    have he := h.eqr
    rw [hl] at h he
    subst hK
    simp [sS, hl]
    exact (s_rep knL).eqr
  · rintro ⟨i, hi, h0⟩
    cbv
    repeat' (first | with_reducible exact True.intro | with_reducible exact dr_ok hA (by kernel_rfl) | with_reducible refine And.intro ?_ ?_ | (intro hc; cbv))
    all_goals first
      | (fail_if_success (refine Exists.intro ?_ ?_)
         subst hA
         simp [-List.getD_eq_getElem?_getD, sS] at *
         first
           | done
           | omega
           | exact kn_yes hK (by omega) hc
           | (rw [kn_yes hK (by omega) hc]; done)
           | (rw [kn_no hK (fun j hj => h0 j (by omega))]; done)
           | exact kn_no hK (fun j hj => h0 j (by omega))
           | trace_state)
      | (have hlt : i < K.length := by (clear h0; subst hA; simp [-List.getD_eq_getElem?_getD, sS] at *; omega)
         have hne : ¬K.getD i [] = s := by (clear h0; subst hA; simp [-List.getD_eq_getElem?_getD, sS] at *; exact hc)
         refine ⟨⟨i + 1, by omega, fun j hj => ?_⟩, ?_, show K.length - (i + 1) < K.length - i by omega⟩
         · by_cases e : j = i
           · subst e; exact hne
           · exact h0 j (by omega)
         cbv
         subst hA
         simp [sS]
         first
           | exact (w64 (by omega)).trans (by omega)
           | trace_state)
      | trace_state
noncomputable def c_rKnown : Ct := fun A args => match args with
  | [.str s] => some (none, .bool (A.tb fun _ => mT s))
  | _ => none
noncomputable def gM7a : Ar → Pu := addC 73 c_rKnown (gM4)
theorem gM7a_ok : PuOk Tryd.prog gl0 (gM7a std) := by
  refine addC_ok (gM4_ok) ⟨_, Tryd.func73, rfl, by decide⟩ ?_
  · intro args p r h hp
    unfold c_rKnown at h
    split at h <;> cases h
    exact good_rKnown _
theorem good_rRight4 (T : List UInt8) (L : List It) (hL : L.length ≤ 1000000) (hS : ∀ i, (L.getD i (0, [])).2.length ≤ 1000000) : GoodP Tryd.prog gl0 21 [.agg [.str T, rowS eI (0, []) 2 std fun _ => L]] (.bool (std.tb fun _ => mR T L)) := by
  refine fn_sound' (T := seatT) (G := gM7a) (X := noX) seatT_ok gM7a_ok noX_ok noI_ok mixed Tryd.func21 (.one) (fun A => [.agg [.str T, rowS eI (0, []) 2 A fun _ => L]]) (fun A => .bool (A.tb fun _ => mR T L)) fun A hA => ?_
  cbv
  repeat' (first | with_reducible exact True.intro | with_reducible exact dr_ok hA (by kernel_rfl) | with_reducible refine And.intro ?_ ?_ | (intro hc; cbv))
  all_goals first
    | (fail_if_success (refine Exists.intro ?_ ?_)
       subst hA
       simp [sS] at *
       first
         | done
         | omega
         | exact (mR_head (by first | assumption | exact .inl (by assumption) | exact .inr (by assumption))).symm
         | exact mR_head (by first | assumption | exact .inl (by assumption) | exact .inr (by assumption))
         | trace_state)
    | skip
  have h0 : mT T = true ∧ ¬L = [] := by
    subst hA
    simp [sS] at hc
    exact hc
  clear hc
  refine ⟨⟨{i : Nat // i ≤ L.length ∧ mUp L i = true}, fun b i => [(3, .int .i64 (i.1 : Nat))], fun b i => [], fun i => L.length - i.1, true⟩, ⟨⟨0, by omega, rfl⟩, ?_⟩, ?_⟩
  · cbv
    subst hA
    simp [-List.getD_eq_getElem?_getD, sS]
  · rintro ⟨i, hi, hz⟩
    cbv
    repeat' (first | with_reducible exact True.intro | with_reducible exact dr_ok hA (by kernel_rfl) | with_reducible refine And.intro ?_ ?_ | (intro hc; cbv))
    all_goals first
      | (fail_if_success (refine Exists.intro ?_ ?_)
         subst hA
         simp [-List.getD_eq_getElem?_getD, sS] at *
         done)
      | (fail_if_success (refine Exists.intro ?_ ?_)
         have hx := hz
         clear hz
         subst hA
         simp [-List.getD_eq_getElem?_getD, sS] at *
         first
           | omega
           | exact hS _
           | exact fun h1 h2 => ⟨⟨h1, h2⟩, hc⟩
           | exact fun h1 h2 => ⟨⟨h1, h2⟩, by rw [wm1 h2 (by omega)]; omega⟩
           | exact fun h1 => ⟨h1, fun h2 => ⟨h1, h2⟩⟩
           | (rcases hc with hc | hc
              · exact mR_false (by assumption) (mOk_rr hc)
              · have h1 : 0 < i := hc.1
                rw [wm1 h1 (by omega), Int.toNat_natCast] at hc
                exact mR_false (by assumption) (mOk_lo h1 hc.2))
           | (have hie : i = L.length := by omega
              rw [hie] at hx
              rw [mR_true h0.1 h0.2 hx]
              done)
           | (have hie : i = L.length := by omega
              rw [hie] at hx
              exact mR_true h0.1 h0.2 hx)
           | trace_state)
      | (have hlt : i < L.length := by (clear hz; subst hA; simp [sS] at * <;> omega)
         have hok : mOk L i = true := by
           clear hz
           subst hA
           simp [-List.getD_eq_getElem?_getD, sS] at *
           refine mOk_yes (fun h1 => ?_) hc.1
           have h2 := hc.2 h1
           rw [wm1 h1 (by omega), Int.toNat_natCast] at h2
           exact h2
         obtain ⟨i', hi'⟩ : ∃ i', i' = i + 1 := ⟨_, rfl⟩
         refine ⟨⟨i', by omega, by rw [hi', mUp_succ, hz, hok]; rfl⟩, ?_, show L.length - i' < L.length - i by omega⟩
         cbv
         subst hA
         simp [sS]
         exact (w64 (by omega)).trans (by omega))
      | trace_state
theorem good_rGet4 (T : List UInt8) (L : List It) (n : Int) (hL : L.length ≤ 1000000) : GoodP Tryd.prog gl0 25 [.agg [.str T, rowS eI (0, []) 2 std fun _ => L], .int .i64 n] (.tup [.str (std.ts fun _ => mG L n), .bool (std.tb fun _ => mH L n)]) := by
  refine fn_sound' (T := seatT) (G := noC) (X := noX) seatT_ok noC_ok noX_ok noI_ok mixed Tryd.func25 (.one) (fun A => [.agg [.str T, rowS eI (0, []) 2 A fun _ => L], .int .i64 n]) (fun A => .tup [.str (A.ts fun _ => mG L n), .bool (A.tb fun _ => mH L n)]) fun A hA => ?_
  cbv
  repeat' (first | with_reducible exact True.intro | with_reducible exact dr_ok hA (by kernel_rfl) | with_reducible refine And.intro ?_ ?_ | (intro hc; cbv))
  refine ⟨⟨{i : Nat // i ≤ L.length ∧ ∀ j, j < i → ¬(L.getD j (0, [])).1 = n}, fun b i => [(6, .int .i64 (i.1 : Nat))], fun b i => [], fun i => L.length - i.1, true⟩, ⟨⟨0, by omega, fun j hj => absurd hj (by omega)⟩, ?_⟩, ?_⟩
  · cbv
    subst hA
    simp [-List.getD_eq_getElem?_getD, sS]
  · rintro ⟨i, hi, h0⟩
    cbv
    repeat' (first | with_reducible exact True.intro | with_reducible exact dr_ok hA (by kernel_rfl) | with_reducible refine And.intro ?_ ?_ | (intro hc; cbv))
    all_goals first
      | (fail_if_success (refine Exists.intro ?_ ?_)
         subst hA
         simp [-List.getD_eq_getElem?_getD, sS] at *
         done)
      | (fail_if_success (refine Exists.intro ?_ ?_)
         subst hA
         simp [-List.getD_eq_getElem?_getD, sS] at *
         first
           | omega
           | (have e : (L.getD i (0, [])).1 = n := by assumption
              have := mG_at (by omega) h0 e
              first
                | (rw [this.1]; done)
                | (rw [this.2]; done))
           | (have hie : i = L.length := by omega
              subst hie
              have := mG_none h0
              first
                | (rw [this.1]; done)
                | (rw [this.2]; done))
           | trace_state)
      | (have hlt : i < L.length := by (clear h0; subst hA; simp [-List.getD_eq_getElem?_getD, sS] at *; omega)
         have hne : ¬(L.getD i (0, [])).1 = n := by (clear h0; subst hA; simp [-List.getD_eq_getElem?_getD, sS] at *; assumption)
         refine ⟨⟨i + 1, by omega, fun j hj => ?_⟩, ?_, show L.length - (i + 1) < L.length - i by omega⟩
         · by_cases e : j = i
           · subst e; exact hne
           · exact h0 j (by omega)
         cbv
         subst hA
         simp [sS]
         exact (w64 (by omega)).trans (by omega))
      | trace_state
noncomputable def c_rRight4 : Ct := fun A args => match args with
  | [.agg [.str T, .slc n 2 f]] => some (some (A.tp fun _ => isRow eI (0, []) 2 n f ∧ n ≤ 1000000 ∧ ∀ i, ((lstOf eI (0, []) 2 n f).getD i (0, [])).2.length ≤ 1000000), .bool (A.tb fun _ => mR T (lstOf eI (0, []) 2 n f)))
  | _ => none
noncomputable def c_rGet4 : Ct := fun A args => match args with
  | [.agg [.str T, .slc n 2 f], .int .i64 z] => some (some (A.tp fun _ => isRow eI (0, []) 2 n f ∧ n ≤ 1000000), .tup [.str (A.ts fun _ => mG (lstOf eI (0, []) 2 n f) z), .bool (A.tb fun _ => mH (lstOf eI (0, []) 2 n f) z)])
  | _ => none
noncomputable def gM7 : Ar → Pu := addC 21 c_rRight4 (addC 25 c_rGet4 (gM7a))
theorem gM7_ok : PuOk Tryd.prog gl0 (gM7 std) := by
  refine addC_ok (addC_ok (gM7a_ok) ⟨_, Tryd.func25, rfl, by decide⟩ ?_) ⟨_, Tryd.func21, rfl, by decide⟩ ?_
  · intro args p r h hp
    unfold c_rGet4 at h
    split at h <;> cases h
    exact good_sv (good_rGet4 _ _ _ (by rw [lstOf_length hp.1]; exact hp.2)) ⟨⟨_, rfl, rfl, hp.1.sv, trivial⟩, rfl, trivial⟩
  · intro args p r h hp
    unfold c_rRight4 at h
    split at h <;> cases h
    exact good_sv (good_rRight4 _ _ (by rw [lstOf_length hp.1]; exact hp.2.1) hp.2.2) ⟨⟨_, rfl, rfl, hp.1.sv, trivial⟩, trivial⟩
end Go.Vd

/- Deals: the reference's functions. -/
set_option linter.unusedVariables false
set_option linter.unusedSimpArgs false
set_option maxRecDepth 100000
set_option maxHeartbeats 8000000
namespace Go.Vd
open Go.Proofs
theorem beq_dec (x n : Int) : (x == n) = decide (x = n) := by rw [Bool.eq_iff_iff]; simp
theorem knR_ex : ∃ L : List (List UInt8), L = knL := ⟨_, rfl⟩
/-- The types, kept folded. -/
noncomputable def knR : List (List UInt8) := Classical.choose knR_ex
theorem knR_eq : knR = knL := Classical.choose_spec knR_ex
theorem knR_ty : knR = typesL := knR_eq
theorem knR_len : knR.length = 7 := by rw [knR_eq]; rfl
theorem kd_iff {T : List UInt8} {i : Nat} (hi : i < 7) : knR.getD i [] = T ↔ kdOf T = (i : Int) + 1 := by
  rw [knR_ty]
  constructor
  · exact kd_at hi
  · intro h
    unfold kdOf at h
    repeat' split at h
    all_goals first
      | (exfalso; omega)
      | (rename_i e
         subst e
         rcases (show i = 0 ∨ i = 1 ∨ i = 2 ∨ i = 3 ∨ i = 4 ∨ i = 5 ∨ i = 6 by omega) with rfl | rfl | rfl | rfl | rfl | rfl | rfl <;> first | rfl | (exfalso; omega))
theorem kd_le (T : List UInt8) : 0 ≤ kdOf T ∧ kdOf T ≤ 7 := by
  unfold kdOf
  repeat' split
  all_goals omega
theorem tyOf_R {k : Int} (h : 1 ≤ k ∧ k ≤ 7) : knR.getD (k - 1).toNat [] = tyOf k := by
  rw [knR_ty]
  rcases (show k = 1 ∨ k = 2 ∨ k = 3 ∨ k = 4 ∨ k = 5 ∨ k = 6 ∨ k = 7 by omega) with rfl | rfl | rfl | rfl | rfl | rfl | rfl <;> rfl
theorem good_rTypes  : GoodP Tryd.prog gl0 94 [] (rowS eS [] 1 std fun _ => knR) := by
  refine fn_sound' (T := seatT) (G := noC) (X := noX) seatT_ok noC_ok noX_ok noI_ok mixed Tryd.func94 (.none) (fun A => []) (fun A => rowS eS [] 1 A fun _ => knR) fun A hA => ?_
  cbv
  repeat' (first | with_reducible exact True.intro | with_reducible exact dr_ok hA (by kernel_rfl) | with_reducible refine And.intro ?_ ?_ | (intro hc; cbv))
  all_goals (subst hA; simp only [std_add, std_sub, std_mul, std_quo, std_rem, std_band, std_bor, std_bxor, std_shl, std_shr, std_eq, std_ne, std_lt, std_le, std_conv, std_not, std_beq, std_bne, std_ite, std_want, std_and2, std_sadd, std_seq, std_sne, std_slt, std_sle, std_sgt, std_sge, std_slen, std_sget, std_scut, std_ofNat, std_toNat, std_nsub, std_nadd, std_lenOf, std_nz, std_nneg, std_inb, std_upto, std_slt63, std_grow, std_imp, std_impN, std_tr, std_tb, std_ti, std_ts, std_tn, std_tp, std_nmin, std_makes, std_room, std_zeros, std_nilq, std_notq, std_eqi, std_eqn, std_eqb, std_eqs, std_eqv, std_cat, std_lst, std_rset, std_rcopy, std_shift, std_eqr, std_strOf, std_bytesOf, std_isB, std_zOf, zOf_int, std_isI, isI_int, std_getL, std_nmul, std_sOf, sOf_str, std_isS, isS_str])
  · rw [knR_eq]; rfl
  · rw [knR_eq]; exact (s_rep knL).eqr
theorem good_rOrigin (x : List UInt8) (hx : x.length ≤ 1000) : GoodP Tryd.prog gl0 96 [.str x] (.str (std.ts fun _ => frst x)) := by
  refine fn_sound' (T := seatT) (G := noC) (X := noX) seatT_ok noC_ok noX_ok noI_ok mixed Tryd.func96 (.one) (fun A => [.str x]) (fun A => .str (A.ts fun _ => frst x)) fun A hA => ?_
  cbv
  repeat' (first | with_reducible exact True.intro | with_reducible exact dr_ok hA (by kernel_rfl) | with_reducible refine And.intro ?_ ?_ | (intro hc; cbv))
  all_goals (subst hA; simp [std_add, std_sub, std_mul, std_quo, std_rem, std_band, std_bor, std_bxor, std_shl, std_shr, std_eq, std_ne, std_lt, std_le, std_conv, std_not, std_beq, std_bne, std_ite, std_want, std_and2, std_sadd, std_seq, std_sne, std_slt, std_sle, std_sgt, std_sge, std_slen, std_sget, std_scut, std_ofNat, std_toNat, std_nsub, std_nadd, std_lenOf, std_nz, std_nneg, std_inb, std_upto, std_slt63, std_grow, std_imp, std_impN, std_tr, std_tb, std_ti, std_ts, std_tn, std_tp, std_nmin, std_makes, std_room, std_zeros, std_nilq, std_notq, std_eqi, std_eqn, std_eqb, std_eqs, std_eqv, std_cat, std_lst, std_rset, std_rcopy, std_shift, std_eqr, std_strOf, std_bytesOf, std_isB, std_zOf, zOf_int, std_isI, isI_int, std_getL, std_nmul, std_sOf, sOf_str, std_isS, isS_str] at *)
  all_goals first
    | omega
    | (simp [frst]; done)
    | trace_state
theorem good_rAsks6 (k : Int) : GoodP Tryd.prog gl0 39 [.int .i64 k] (.bool (std.tb fun _ => dAsks k)) := by
  refine fn_sound' (T := seatT) (G := noC) (X := noX) seatT_ok noC_ok noX_ok noI_ok mixed Tryd.func39 (.one) (fun A => [.int .i64 k]) (fun A => .bool (A.tb fun _ => dAsks k)) fun A hA => ?_
  cbv
  repeat' (first | with_reducible exact True.intro | with_reducible exact dr_ok hA (by kernel_rfl) | with_reducible refine And.intro ?_ ?_ | (intro hc; cbv))
  all_goals (subst hA; simp [std_add, std_sub, std_mul, std_quo, std_rem, std_band, std_bor, std_bxor, std_shl, std_shr, std_eq, std_ne, std_lt, std_le, std_conv, std_not, std_beq, std_bne, std_ite, std_want, std_and2, std_sadd, std_seq, std_sne, std_slt, std_sle, std_sgt, std_sge, std_slen, std_sget, std_scut, std_ofNat, std_toNat, std_nsub, std_nadd, std_lenOf, std_nz, std_nneg, std_inb, std_upto, std_slt63, std_grow, std_imp, std_impN, std_tr, std_tb, std_ti, std_ts, std_tn, std_tp, std_nmin, std_makes, std_room, std_zeros, std_nilq, std_notq, std_eqi, std_eqn, std_eqb, std_eqs, std_eqv, std_cat, std_lst, std_rset, std_rcopy, std_shift, std_eqr, std_strOf, std_bytesOf, std_isB, std_zOf, zOf_int, std_isI, isI_int, std_getL, std_nmul, std_sOf, sOf_str, std_isS, isS_str] at *)
  all_goals first
    | (unfold dAsks; rw [Bool.eq_iff_iff]; simp; done)
    | (unfold dAsks; rw [Bool.eq_iff_iff]; simp; omega)
    | trace_state
noncomputable def c_rTypes : Ct := fun A args => match args with
  | [] => some (none, rowS eS [] 1 A fun _ => knR)
  | _ => none
noncomputable def c_rOrigin : Ct := fun A args => match args with
  | [.str x] => some (some (A.tp fun _ => x.length ≤ 1000), .str (A.ts fun _ => frst x))
  | _ => none
noncomputable def c_rAsks6 : Ct := fun A args => match args with
  | [.int .i64 k] => some (none, .bool (A.tb fun _ => dAsks k))
  | _ => none
noncomputable def c_rRight46 : Ct := fun A args => match args with
  | [.agg [.str T, .slc n 2 f]] => some (some (A.tp fun _ => isRow eI (0, []) 2 n f ∧ n ≤ 1000000 ∧ ∀ i, ((lstOf eI (0, []) 2 n f).getD i (0, [])).2.length ≤ 1000000), .bool (A.tb fun _ => mR T (lstOf eI (0, []) 2 n f)))
  | _ => none
noncomputable def gO7 : Ar → Pu := addC 94 c_rTypes (addC 96 c_rOrigin (addC 39 c_rAsks6 (addC 21 c_rRight46 (gO6))))
theorem gO7_ok : PuOk Tryd.prog gl0 (gO7 std) := by
  refine addC_ok (addC_ok (addC_ok (addC_ok (gO6_ok) ⟨_, Tryd.func21, rfl, by decide⟩ ?_) ⟨_, Tryd.func39, rfl, by decide⟩ ?_) ⟨_, Tryd.func96, rfl, by decide⟩ ?_) ⟨_, Tryd.func94, rfl, by decide⟩ ?_
  · intro args p r h hp
    unfold c_rRight46 at h
    split at h <;> cases h
    exact good_sv (good_rRight4 _ _ (by rw [lstOf_length hp.1]; exact hp.2.1) hp.2.2) ⟨⟨_, rfl, rfl, hp.1.sv, trivial⟩, trivial⟩
  · intro args p r h hp
    unfold c_rAsks6 at h
    split at h <;> cases h
    exact good_rAsks6 _
  · intro args p r h hp
    unfold c_rOrigin at h
    split at h <;> cases h
    exact good_rOrigin _ hp
  · intro args p r h hp
    unfold c_rTypes at h
    split at h <;> cases h
    exact good_rTypes
theorem good_rRight6 (k a s : Int) (p r c : List UInt8) (hp : p.length ≤ 100000) (hr : r.length ≤ 1000000) (hcc : c.length ≤ 1000000) : GoodP Tryd.prog gl0 32 [.agg [.int .i64 k, .str p, .int .u64 a, .int .u32 s, .str r, .str c]] (.bool (std.tb fun _ => dR k a s p r c)) := by
  refine fn_sound' (T := seatT) (G := gO7) (X := noX) seatT_ok gO7_ok noX_ok noI_ok mixed Tryd.func32 (.one) (fun A => [.agg [.int .i64 k, .str p, .int .u64 a, .int .u32 s, .str r, .str c]]) (fun A => .bool (A.tb fun _ => dR k a s p r c)) fun A hA => ?_
  cbv
  repeat' (first | with_reducible exact True.intro | with_reducible exact dr_ok hA (by kernel_rfl) | with_reducible refine And.intro ?_ ?_ | (intro hc; cbv))
  all_goals (subst hA; simp [-List.getD_eq_getElem?_getD, std_add, std_sub, std_mul, std_quo, std_rem, std_band, std_bor, std_bxor, std_shl, std_shr, std_eq, std_ne, std_lt, std_le, std_conv, std_not, std_beq, std_bne, std_ite, std_want, std_and2, std_sadd, std_seq, std_sne, std_slt, std_sle, std_sgt, std_sge, std_slen, std_sget, std_scut, std_ofNat, std_toNat, std_nsub, std_nadd, std_lenOf, std_nz, std_nneg, std_inb, std_upto, std_slt63, std_grow, std_imp, std_impN, std_tr, std_tb, std_ti, std_ts, std_tn, std_tp, std_nmin, std_makes, std_room, std_zeros, std_nilq, std_notq, std_eqi, std_eqn, std_eqb, std_eqs, std_eqv, std_cat, std_lst, std_rset, std_rcopy, std_shift, std_eqr, std_strOf, std_bytesOf, std_isB, std_zOf, zOf_int, std_isI, isI_int, std_getL, std_nmul, std_sOf, sOf_str, std_isS, isS_str] at *)
  all_goals first
    | omega
    | exact fun h1 h2 h3 => ⟨⟨⟨h1, h2⟩, h3⟩, hr⟩
    | (unfold dR
       rcases hc with ((hc | hc) | hc) | hc
       · rw [decide_eq_false (p := 1 ≤ k ∧ k ≤ 7) (by omega)]; rfl
       · rw [decide_eq_false (p := 1 ≤ k ∧ k ≤ 7) (by omega)]; rfl
       · rw [decide_eq_false (p := s ≤ 999999) (by omega)]; simp
       · rw [hc]; simp)
    | (have hd : dAsks k = true := by assumption
       have h20 : decide ((p.length : Int) < 20) = decide ((p.length : Int) ≤ 19) := by rw [Bool.eq_iff_iff]; simp; omega
       unfold dR
       rw [decide_eq_true hc.1.1, decide_eq_true hc.1.2, hc.2, if_pos hd, h20]
       simp only [Bool.true_and, Bool.and_assoc]
       cases c <;> rfl)
    | (have hd : dAsks k = false := by assumption
       unfold dR
       rw [decide_eq_true hc.1.1, decide_eq_true hc.1.2, hc.2, if_neg (by rw [hd]; simp), beq_dec]
       simp only [Bool.true_and, Bool.and_assoc]
       cases p <;> rfl)
    | trace_state
theorem i2r (n : Int) (x : List UInt8) (m : Int) (y : List UInt8) : Reps eI (0, []) 2 2 (lstS [[SV.int .i64 n, SV.str x], [SV.int .i64 m, SV.str y]]) [(n, x), (m, y)] := Reps.lst (l := [_, _]) (L := [(n, x), (m, y)]) ⟨cell_eI n x, cell_eI m y, trivial⟩
theorem dI_1 {k a s : Int} {p r c : List UInt8} (h : k = 5 ∨ k = 6) : dIs k a s p r c = [(2, p), (4, puS a 12), (11, puS s 6), (37, r), (90, frst (puS s 6))] := if_pos h
theorem dI_2 {k a s : Int} {p r c : List UInt8} (h : ¬(k = 5 ∨ k = 6)) (h1 : dAsks k = true) : dIs k a s p r c = [(2, p), (4, puS a 12), (11, puS s 6), (37, r)] := by unfold dIs; rw [if_neg h, if_pos h1]
theorem dI_3 {k a s : Int} {p r c : List UInt8} (h : ¬(k = 5 ∨ k = 6)) (h1 : dAsks k = false) : dIs k a s p r c = [(11, puS s 6), (37, r), (39, c)] := by unfold dIs; rw [if_neg h, if_neg (by rw [h1]; simp)]
theorem good_rMust6 (k : Int) : GoodP Tryd.prog gl0 102 [.int .i64 k] (rowS eZ 0 1 std fun _ => fOf k) := by
  refine fn_sound' (T := seatT) (G := gO7) (X := noX) seatT_ok gO7_ok noX_ok noI_ok mixed Tryd.func102 (.none) (fun A => [.int .i64 k]) (fun A => rowS eZ 0 1 A fun _ => fOf k) fun A hA => ?_
  cbv
  repeat' (first | with_reducible exact True.intro | with_reducible exact dr_ok hA (by kernel_rfl) | with_reducible refine And.intro ?_ ?_ | (intro hc; cbv))
  all_goals (subst hA; simp [std_add, std_sub, std_mul, std_quo, std_rem, std_band, std_bor, std_bxor, std_shl, std_shr, std_eq, std_ne, std_lt, std_le, std_conv, std_not, std_beq, std_bne, std_ite, std_want, std_and2, std_sadd, std_seq, std_sne, std_slt, std_sle, std_sgt, std_sge, std_slen, std_sget, std_scut, std_ofNat, std_toNat, std_nsub, std_nadd, std_lenOf, std_nz, std_nneg, std_inb, std_upto, std_slt63, std_grow, std_imp, std_impN, std_tr, std_tb, std_ti, std_ts, std_tn, std_tp, std_nmin, std_makes, std_room, std_zeros, std_nilq, std_notq, std_eqi, std_eqn, std_eqb, std_eqs, std_eqv, std_cat, std_lst, std_rset, std_rcopy, std_shift, std_eqr, std_strOf, std_bytesOf, std_isB, std_zOf, zOf_int, std_isI, isI_int, std_getL, std_nmul, std_sOf, sOf_str, std_isS, isS_str] at *)
  all_goals first
    | (rw [fo_1 (by omega)]; rfl)
    | (rw [fo_1 (by omega)]; exact (z_rep [2, 4, 11, 37, 90]).eqr)
    | (rw [fo_2 (by omega) (by assumption)]; rfl)
    | (rw [fo_2 (by omega) (by assumption)]; exact (z_rep [2, 4, 11, 37]).eqr)
    | (rw [fo_3 (by omega) (by assumption)]; rfl)
    | (rw [fo_3 (by omega) (by assumption)]; exact (z_rep [11, 37, 39]).eqr)
    | trace_state
theorem good_rWrite6 (k a s : Int) (p r c : List UInt8) (ha : 0 ≤ a ∧ a < 18446744073709551616) (hs : 0 ≤ s ∧ s < 4294967296) (hd : dR k a s p r c = true) : GoodP Tryd.prog gl0 34 [.agg [.int .i64 k, .str p, .int .u64 a, .int .u32 s, .str r, .str c]] (.agg [.str (std.ts fun _ => tyOf k), rowS eI (0, []) 2 std fun _ => dIs k a s p r c]) := by
  refine fn_sound' (T := seatT) (G := gO7) (X := noX) seatT_ok gO7_ok noX_ok noI_ok mixed Tryd.func34 (.none) (fun A => [.agg [.int .i64 k, .str p, .int .u64 a, .int .u32 s, .str r, .str c]]) (fun A => .agg [.str (A.ts fun _ => tyOf k), rowS eI (0, []) 2 A fun _ => dIs k a s p r c]) fun A hA => ?_
  cbv
  repeat' (first | with_reducible exact True.intro | with_reducible exact dr_ok hA (by kernel_rfl) | with_reducible refine And.intro ?_ ?_ | (intro hc; cbv))
  all_goals (subst hA; simp [-List.getD_eq_getElem?_getD, std_add, std_sub, std_mul, std_quo, std_rem, std_band, std_bor, std_bxor, std_shl, std_shr, std_eq, std_ne, std_lt, std_le, std_conv, std_not, std_beq, std_bne, std_ite, std_want, std_and2, std_sadd, std_seq, std_sne, std_slt, std_sle, std_sgt, std_sge, std_slen, std_sget, std_scut, std_ofNat, std_toNat, std_nsub, std_nadd, std_lenOf, std_nz, std_nneg, std_inb, std_upto, std_slt63, std_grow, std_imp, std_impN, std_tr, std_tb, std_ti, std_ts, std_tn, std_tp, std_nmin, std_makes, std_room, std_zeros, std_nilq, std_notq, std_eqi, std_eqn, std_eqb, std_eqs, std_eqv, std_cat, std_lst, std_rset, std_rcopy, std_shift, std_eqr, std_strOf, std_bytesOf, std_isB, std_zOf, zOf_int, std_isI, isI_int, std_getL, std_nmul, std_sOf, sOf_str, std_isS, isS_str] at *)
  all_goals (have hk := (dR_iff.1 hd).1)
  all_goals (have h6 := puS_len s 6)
  all_goals (have ht := tyOf_R hk)
  all_goals (have hw : IntKind.i64.wrap (k - 1) = k - 1 := w64 (by omega))
  all_goals (have hkl := knR_len)
  all_goals (simp only [u64_32 hs, hw, hkl] at *)
  all_goals first
    | omega
    | exact ht
    | (constructor <;> omega)
    | (exfalso
       have q := asks_tl (by omega : k = 5 ∨ k = 6)
       simp_all
       done)
    | (exfalso; simp_all; done)
    | (rw [dI_1 (by omega)]; rfl)
    | (rw [dI_1 (by omega)]; exact ((i2r _ _ _ _).cat (i2r _ _ _ _)).cat (i1r _ _) |>.eqr)
    | (rw [dI_2 (by omega) (by assumption)]; rfl)
    | (rw [dI_2 (by omega) (by assumption)]; exact ((i2r _ _ _ _).cat (i2r _ _ _ _)).eqr)
    | (rw [dI_3 (by omega) (by assumption)]; rfl)
    | (rw [dI_3 (by omega) (by assumption)]; exact ((i2r _ _ _ _).cat (i1r _ _)).eqr)
    | trace_state
end Go.Vd

/- Deals: the reference's Read; DealRight. -/
set_option linter.unusedVariables false
set_option linter.unusedSimpArgs false
set_option maxRecDepth 100000
set_option maxHeartbeats 8000000
namespace Go.Vd
open Go.Proofs
noncomputable def c_rRight6 : Ct := fun A args => match args with
  | [.agg [.int .i64 k, .str p, .int .u64 a, .int .u32 s, .str r, .str c]] => some (some (A.tp fun _ => p.length ≤ 100000 ∧ r.length ≤ 1000000 ∧ c.length ≤ 1000000), .bool (A.tb fun _ => dR k a s p r c))
  | _ => none
noncomputable def c_rMust6 : Ct := fun A args => match args with
  | [.int .i64 k] => some (none, rowS eZ 0 1 A fun _ => fOf k)
  | _ => none
noncomputable def c_rWrite6 : Ct := fun A args => match args with
  | [.agg [.int .i64 k, .str p, .int .u64 a, .int .u32 s, .str r, .str c]] => some (some (A.tp fun _ => (0 ≤ a ∧ a < 18446744073709551616) ∧ (0 ≤ s ∧ s < 4294967296) ∧ dR k a s p r c = true), .agg [.str (A.ts fun _ => tyOf k), rowS eI (0, []) 2 A fun _ => dIs k a s p r c])
  | _ => none
noncomputable def gO8 : Ar → Pu := addC 32 c_rRight6 (addC 102 c_rMust6 (addC 34 c_rWrite6 (gO7)))
theorem gO8_ok : PuOk Tryd.prog gl0 (gO8 std) := by
  refine addC_ok (addC_ok (addC_ok (gO7_ok) ⟨_, Tryd.func34, rfl, by decide⟩ ?_) ⟨_, Tryd.func102, rfl, by decide⟩ ?_) ⟨_, Tryd.func32, rfl, by decide⟩ ?_
  · intro args p r h hp
    unfold c_rWrite6 at h
    split at h <;> cases h
    exact good_rWrite6 _ _ _ _ _ _ hp.1 hp.2.1 hp.2.2
  · intro args p r h hp
    unfold c_rMust6 at h
    split at h <;> cases h
    exact good_rMust6 _
  · intro args p r h hp
    unfold c_rRight6 at h
    split at h <;> cases h
    exact good_rRight6 _ _ _ _ _ _ hp.1 hp.2.1 hp.2.2
def kTo (T : List UInt8) (i : Nat) : Int := if kdOf T ≤ i then kdOf T else 0
theorem kTo_0 {T : List UInt8} (h : 1 ≤ kdOf T) : kTo T 0 = 0 := if_neg (by simp; omega)
theorem kTo_7 (T : List UInt8) : kTo T 7 = kdOf T := if_pos (by have := kd_le T; simp; omega)
theorem kTo_y {T : List UInt8} {i : Nat} (h : kdOf T = (i : Int) + 1) : kTo T (i + 1) = (i : Int) + 1 := by unfold kTo; rw [h, if_pos (by simp)]
theorem kTo_n {T : List UInt8} {i : Nat} (h : ¬kdOf T = (i : Int) + 1) : kTo T (i + 1) = kTo T i := by
  unfold kTo
  by_cases e : kdOf T ≤ (i : Int)
  · rw [if_pos e, if_pos (by push_cast; omega)]
  · rw [if_neg e, if_neg (by push_cast; omega)]
abbrev D5 := Int × Int × List UInt8 × List UInt8 × List UInt8
def d5s (o : D5) (x : It) : D5 := if x.1 = 2 then (o.1, o.2.1, x.2, o.2.2.2.1, o.2.2.2.2) else if x.1 = 4 then ((gVal x.2 : Int), o.2.1, o.2.2.1, o.2.2.2.1, o.2.2.2.2) else if x.1 = 11 then (o.1, IntKind.u32.wrap (gVal x.2 : Int), o.2.2.1, o.2.2.2.1, o.2.2.2.2) else if x.1 = 37 then (o.1, o.2.1, o.2.2.1, x.2, o.2.2.2.2) else if x.1 = 39 then (o.1, o.2.1, o.2.2.1, o.2.2.2.1, x.2) else o
def d5 (L : List It) : D5 := L.foldl d5s (0, 0, [], [], [])
theorem d5_take {L : List It} {j : Nat} (h : j < L.length) : d5 (L.take (j + 1)) = d5s (d5 (L.take j)) (L.getD j (0, [])) := by
  rw [← take_snoc (d := (0, [])) h]
  unfold d5
  rw [List.foldl_append]
  rfl
theorem fo5 {k : Int} : (fOf k).length = 5 ↔ (k = 5 ∨ k = 6) := by
  unfold fOf
  split
  · rename_i e; simp [e]
  · rename_i e
    split <;> simp [e]
theorem d5_fin {L : List It} {k : Int} (h : fs L = fOf k) : d5 L = ((if dAsks k = true then (gVal (mG L 4) : Int) else 0), IntKind.u32.wrap (gVal (mG L 11) : Int), (if dAsks k = true then mG L 2 else []), mG L 37, (if dAsks k = true then [] else mG L 39)) ∧ ((k = 5 ∨ k = 6) → (L.getD 4 (0, [])).2 = mG L 90 ∧ (L.getD 2 (0, [])).2 = mG L 11) := by
  by_cases t : k = 5 ∨ k = 6
  · rw [fo_1 t] at h
    rw [if_pos (asks_tl t), if_pos (asks_tl t), if_pos (asks_tl t)]
    obtain ⟨x1, x2, x3, x4, x5, rfl⟩ := fl5_of h
    exact ⟨rfl, fun _ => ⟨rfl, rfl⟩⟩
  · cases e : dAsks k
    · rw [fo_3 t e] at h
      obtain ⟨x1, x2, x3, rfl⟩ := fl3_of h
      exact ⟨rfl, fun q => absurd q t⟩
    · rw [fo_2 t e] at h
      obtain ⟨x1, x2, x3, x4, rfl⟩ := fl4_of h
      exact ⟨rfl, fun q => absurd q t⟩
theorem d5_five {T : List UInt8} {L : List It} {q : Int} (hkq : q = kdOf T) (hfs : fs L = fOf q) (h : (fOf q).length = 5) : (kdOf T = 5 ∨ kdOf T = 6) ∧ (L.getD 4 (0, [])).2 = mG L 90 ∧ (L.getD 2 (0, [])).2 = mG L 11 := ⟨hkq ▸ fo5.1 h, (d5_fin hfs).2 (fo5.1 h)⟩
theorem good_rRead6 (T : List UInt8) (L : List It) (hL : L.length ≤ 1000000) (hS : ∀ i, (L.getD i (0, [])).2.length ≤ 1000000) : GoodP Tryd.prog gl0 36 [.agg [.str T, rowS eI (0, []) 2 std fun _ => L]] (.tup [.agg [.int .i64 (std.ti fun _ => xK T L), .str (std.ts fun _ => xP T L), .int .u64 (std.ti fun _ => xA T L), .int .u32 (std.ti fun _ => xS T L), .str (std.ts fun _ => xR T L), .str (std.ts fun _ => xC T L)], .int .i64 (std.ti fun _ => dE T L)]) := by
  refine fn_sound' (T := seatT) (G := gO8) (X := noX) seatT_ok gO8_ok noX_ok noI_ok mixed Tryd.func36 (.one) (fun A => [.agg [.str T, rowS eI (0, []) 2 A fun _ => L]]) (fun A => .tup [.agg [.int .i64 (A.ti fun _ => xK T L), .str (A.ts fun _ => xP T L), .int .u64 (A.ti fun _ => xA T L), .int .u32 (A.ti fun _ => xS T L), .str (A.ts fun _ => xR T L), .str (A.ts fun _ => xC T L)], .int .i64 (A.ti fun _ => dE T L)]) fun A hA => ?_
  cbv
  repeat' (first | with_reducible exact True.intro | with_reducible exact dr_ok hA (by kernel_rfl) | with_reducible refine And.intro ?_ ?_ | (intro hc; cbv))
  all_goals first
    | (fail_if_success (refine Exists.intro ?_ ?_)
       subst hA
       simp [-List.getD_eq_getElem?_getD, sS, lstOf_lit inj_eI, isRow_lit] at *
       first
         | done
         | exact ⟨hL, hS⟩
         | (have e := de_1 hc
            have b := dE_bad (T := T) (L := L) (by rw [e]; decide)
            first | exact b.1.symm | exact b.2.1.symm | exact b.2.2.1.symm | exact b.2.2.2.1 | exact b.2.2.2.2.1 | exact b.2.2.2.2.2 | exact e.symm)
         | trace_state)
    | skip
  have hm : mR T L = true := by
    subst hA
    simpa [sS, lstOf_lit inj_eI] using hc
  have hT := kdOf_T (mR_iff.1 hm).1
  have hkl := knR_len
  clear hc
  refine ⟨⟨{q : Nat × Int // q.1 ≤ 7 ∧ q.2 = kTo T q.1}, fun b q => [(5, .int .i64 (q.1.1 : Nat))], fun b q => [(7, .box 52 [.int .i64 q.1.2, .str [], .int .u64 0, .int .u32 0, .str [], .str []])], fun q => 7 - q.1.1, true⟩, ⟨⟨(0, 0), by omega, (kTo_0 hT.1.1).symm⟩, ?_⟩, ?_⟩
  · cbv
    subst hA
    simp [-List.getD_eq_getElem?_getD, sS]
  · rintro ⟨⟨i, q⟩, hi, hq⟩
    simp only at hi hq
    cbv
    repeat' (first | with_reducible exact True.intro | with_reducible exact dr_ok hA (by kernel_rfl) | with_reducible refine And.intro ?_ ?_ | (intro hc; cbv))
    all_goals first
      | (fail_if_success (refine Exists.intro ?_ ?_)
         subst hA
         simp [-List.getD_eq_getElem?_getD, sS, lstOf_lit inj_eI, isRow_lit] at *
         first
           | done
           | omega
           | (have hk : q = kdOf T := by rw [hq, show i = 7 by omega, kTo_7]
              have hne : ¬fs L = fOf (kdOf T) := fun e => hc (by rw [hk, ← e]; simp [fs])
              have e := de_2 hm hne
              have b := dE_bad (T := T) (L := L) (by rw [e]; decide)
              first | exact b.1.symm | exact b.2.1.symm | exact b.2.2.1.symm | exact b.2.2.2.1 | exact b.2.2.2.2.1 | exact b.2.2.2.2.2 | exact e.symm)
           | trace_state)
      | (have hlt : i < 7 := by (subst hA; simp [-List.getD_eq_getElem?_getD, sS] at *; omega)
         have hy : knR.getD i [] = T := by (subst hA; simp [-List.getD_eq_getElem?_getD, sS] at *; exact hc)
         have hk := (kd_iff hlt).1 hy
         obtain ⟨i', hi'⟩ : ∃ i', i' = i + 1 := ⟨_, rfl⟩
         obtain ⟨q', hq'⟩ : ∃ q' : Int, q' = (i : Int) + 1 := ⟨_, rfl⟩
         refine ⟨⟨(i', q'), by omega, by rw [hi', kTo_y hk]; exact hq'⟩, ?_, show 7 - i' < 7 - i by omega⟩
         cbv
         subst hA
         simp [sS]
         first
           | done
           | (have h64 : IntKind.i64.wrap ((i : Int) + 1) = (i : Int) + 1 := w64 (by omega)
              rw [h64]
              exact ⟨by omega, hq'.symm⟩)
           | trace_state)
      | (have hlt : i < 7 := by (subst hA; simp [-List.getD_eq_getElem?_getD, sS] at *; omega)
         have hy : ¬knR.getD i [] = T := by (subst hA; simp [-List.getD_eq_getElem?_getD, sS] at *; exact hc)
         have hk : ¬kdOf T = (i : Int) + 1 := fun e => hy ((kd_iff hlt).2 e)
         obtain ⟨i', hi'⟩ : ∃ i', i' = i + 1 := ⟨_, rfl⟩
         refine ⟨⟨(i', q), by omega, by rw [hi', kTo_n hk]; exact hq⟩, ?_, show 7 - i' < 7 - i by omega⟩
         cbv
         subst hA
         simp [sS]
         first
           | exact (w64 (by omega)).trans (by omega)
           | trace_state)
      | skip
    have hkq : q = kdOf T := by
      have hie : i = 7 := by (subst hA; simp [sS] at *; omega)
      rw [hq, hie, kTo_7]
    have hlen : (fOf q).length = L.length := by
      subst hA
      simp [sS] at hc
      omega
    clear hc
    have hf5 := fOf_len q
    refine ⟨⟨{x : Nat × D5 // x.1 ≤ L.length ∧ (∀ j, j < x.1 → (L.getD j (0, [])).1 = (fOf q).getD j 0) ∧ x.2 = d5 (L.take x.1)}, fun b x => [(7, .int .i64 (x.1.1 : Nat))], fun b x => [(7, .box 52 [.int .i64 q, .str x.1.2.2.2.1, .int .u64 x.1.2.1, .int .u32 x.1.2.2.1, .str x.1.2.2.2.2.1, .str x.1.2.2.2.2.2])], fun x => L.length - x.1.1, true⟩, ⟨⟨(0, (0, 0, [], [], [])), by omega, fun j hj => absurd hj (by omega), rfl⟩, ?_⟩, ?_⟩
    · cbv
      subst hA
      simp [-List.getD_eq_getElem?_getD, sS]
    · rintro ⟨⟨j, xa, xs, xp, xr, xc⟩, hj, h0, hx⟩
      simp only at hj h0 hx
      rcases Nat.lt_or_ge j L.length with hjl | hjl
      · have hst := d5_take hjl
        rw [← hx] at hst
        cbv
        repeat' (first | with_reducible exact True.intro | with_reducible exact dr_ok hA (by kernel_rfl) | with_reducible refine And.intro ?_ ?_ | (intro hc; cbv))
        all_goals first
          | (fail_if_success (refine Exists.intro ?_ ?_)
             have hno := fun (h : ¬(L.getD j (0, [])).1 = (fOf q).getD j 0) => de_2 hm (hkq ▸ fs_no hjl h)
             clear hx hst h0
             subst hA
             simp [-List.getD_eq_getElem?_getD, sS] at *
             first
               | done
               | omega
               | (have e := hno (by assumption)
                  have b := dE_bad (T := T) (L := L) (by rw [e]; decide)
                  first | exact b.1.symm | exact b.2.1.symm | exact b.2.2.1.symm | exact b.2.2.2.1 | exact b.2.2.2.2.1 | exact b.2.2.2.2.2 | exact e.symm)
               | (exfalso; omega)
               | trace_state)
          | skip
        all_goals (have hne : (L.getD j (0, [])).1 = (fOf q).getD j 0 := by (clear h0 hst hx; subst hA; simp [-List.getD_eq_getElem?_getD, sS] at *; omega))
        all_goals first
        | (have e : (L.getD j (0, [])).1 = 2 := by (clear h0 hst hx; subst hA; simp [-List.getD_eq_getElem?_getD, sS] at *; omega)
           have hD : d5s (xa, xs, xp, xr, xc) (L.getD j (0, [])) = (xa, xs, (L.getD j (0, [])).2, xr, xc) := by unfold d5s; simp [-List.getD_eq_getElem?_getD, e]
           obtain ⟨y, hy⟩ : ∃ y : List UInt8, y = (L.getD j (0, [])).2 := ⟨_, rfl⟩
           rw [hD, ← hy] at hst
           obtain ⟨j', hj'⟩ : ∃ j', j' = j + 1 := ⟨_, rfl⟩
           refine ⟨⟨(j', xa, xs, y, xr, xc), by omega, fun m hm' => ?_, by rw [hj', hst]⟩, ?_, show L.length - j' < L.length - j by omega⟩
           · by_cases e : m = j
             · subst e; exact hne
             · exact h0 m (by omega)
           cbv
           subst hA
           simp [-List.getD_eq_getElem?_getD, sS]
           first
             | done
             | exact ⟨(w64 (by omega)).trans (by omega), hy.symm⟩
             | exact (w64 (by omega)).trans (by omega)
             | trace_state)
        | (have e : (L.getD j (0, [])).1 = 4 := by (clear h0 hst hx; subst hA; simp [-List.getD_eq_getElem?_getD, sS] at *; omega)
           have hD : d5s (xa, xs, xp, xr, xc) (L.getD j (0, [])) = ((gVal (L.getD j (0, [])).2 : Int), xs, xp, xr, xc) := by unfold d5s; simp [-List.getD_eq_getElem?_getD, e]
           obtain ⟨y, hy⟩ : ∃ y : Int, y = (gVal (L.getD j (0, [])).2 : Int) := ⟨_, rfl⟩
           rw [hD, ← hy] at hst
           obtain ⟨j', hj'⟩ : ∃ j', j' = j + 1 := ⟨_, rfl⟩
           refine ⟨⟨(j', y, xs, xp, xr, xc), by omega, fun m hm' => ?_, by rw [hj', hst]⟩, ?_, show L.length - j' < L.length - j by omega⟩
           · by_cases e : m = j
             · subst e; exact hne
             · exact h0 m (by omega)
           cbv
           subst hA
           simp [-List.getD_eq_getElem?_getD, sS]
           first
             | done
             | exact ⟨(w64 (by omega)).trans (by omega), hy.symm⟩
             | exact (w64 (by omega)).trans (by omega)
             | trace_state)
        | (have e : (L.getD j (0, [])).1 = 11 := by (clear h0 hst hx; subst hA; simp [-List.getD_eq_getElem?_getD, sS] at *; omega)
           have hD : d5s (xa, xs, xp, xr, xc) (L.getD j (0, [])) = (xa, IntKind.u32.wrap (gVal (L.getD j (0, [])).2 : Int), xp, xr, xc) := by unfold d5s; simp [-List.getD_eq_getElem?_getD, e]
           obtain ⟨y, hy⟩ : ∃ y : Int, y = IntKind.u32.wrap (gVal (L.getD j (0, [])).2 : Int) := ⟨_, rfl⟩
           rw [hD, ← hy] at hst
           obtain ⟨j', hj'⟩ : ∃ j', j' = j + 1 := ⟨_, rfl⟩
           refine ⟨⟨(j', xa, y, xp, xr, xc), by omega, fun m hm' => ?_, by rw [hj', hst]⟩, ?_, show L.length - j' < L.length - j by omega⟩
           · by_cases e : m = j
             · subst e; exact hne
             · exact h0 m (by omega)
           cbv
           subst hA
           simp [-List.getD_eq_getElem?_getD, sS]
           first
             | done
             | exact ⟨(w64 (by omega)).trans (by omega), hy.symm⟩
             | exact (w64 (by omega)).trans (by omega)
             | trace_state)
        | (have e : (L.getD j (0, [])).1 = 37 := by (clear h0 hst hx; subst hA; simp [-List.getD_eq_getElem?_getD, sS] at *; omega)
           have hD : d5s (xa, xs, xp, xr, xc) (L.getD j (0, [])) = (xa, xs, xp, (L.getD j (0, [])).2, xc) := by unfold d5s; simp [-List.getD_eq_getElem?_getD, e]
           obtain ⟨y, hy⟩ : ∃ y : List UInt8, y = (L.getD j (0, [])).2 := ⟨_, rfl⟩
           rw [hD, ← hy] at hst
           obtain ⟨j', hj'⟩ : ∃ j', j' = j + 1 := ⟨_, rfl⟩
           refine ⟨⟨(j', xa, xs, xp, y, xc), by omega, fun m hm' => ?_, by rw [hj', hst]⟩, ?_, show L.length - j' < L.length - j by omega⟩
           · by_cases e : m = j
             · subst e; exact hne
             · exact h0 m (by omega)
           cbv
           subst hA
           simp [-List.getD_eq_getElem?_getD, sS]
           first
             | done
             | exact ⟨(w64 (by omega)).trans (by omega), hy.symm⟩
             | exact (w64 (by omega)).trans (by omega)
             | trace_state)
        | (have e : (L.getD j (0, [])).1 = 39 := by (clear h0 hst hx; subst hA; simp [-List.getD_eq_getElem?_getD, sS] at *; omega)
           have hD : d5s (xa, xs, xp, xr, xc) (L.getD j (0, [])) = (xa, xs, xp, xr, (L.getD j (0, [])).2) := by unfold d5s; simp [-List.getD_eq_getElem?_getD, e]
           obtain ⟨y, hy⟩ : ∃ y : List UInt8, y = (L.getD j (0, [])).2 := ⟨_, rfl⟩
           rw [hD, ← hy] at hst
           obtain ⟨j', hj'⟩ : ∃ j', j' = j + 1 := ⟨_, rfl⟩
           refine ⟨⟨(j', xa, xs, xp, xr, y), by omega, fun m hm' => ?_, by rw [hj', hst]⟩, ?_, show L.length - j' < L.length - j by omega⟩
           · by_cases e : m = j
             · subst e; exact hne
             · exact h0 m (by omega)
           cbv
           subst hA
           simp [-List.getD_eq_getElem?_getD, sS]
           first
             | done
             | exact ⟨(w64 (by omega)).trans (by omega), hy.symm⟩
             | exact (w64 (by omega)).trans (by omega)
             | trace_state)
        | (have e : ¬(L.getD j (0, [])).1 = 2 ∧ ¬(L.getD j (0, [])).1 = 4 ∧ ¬(L.getD j (0, [])).1 = 11 ∧ ¬(L.getD j (0, [])).1 = 37 ∧ ¬(L.getD j (0, [])).1 = 39 := by (clear h0 hst hx; subst hA; simp [-List.getD_eq_getElem?_getD, sS] at *; omega)
           have hD : d5s (xa, xs, xp, xr, xc) (L.getD j (0, [])) = (xa, xs, xp, xr, xc) := by unfold d5s; simp [-List.getD_eq_getElem?_getD, e]
           rw [hD] at hst
           obtain ⟨j', hj'⟩ : ∃ j', j' = j + 1 := ⟨_, rfl⟩
           refine ⟨⟨(j', xa, xs, xp, xr, xc), by omega, fun m hm' => ?_, by rw [hj', hst]⟩, ?_, show L.length - j' < L.length - j by omega⟩
           · by_cases e : m = j
             · subst e; exact hne
             · exact h0 m (by omega)
           cbv
           subst hA
           simp [-List.getD_eq_getElem?_getD, sS]
           first
             | done
             | exact ⟨(w64 (by omega)).trans (by omega), hy.symm⟩
             | exact (w64 (by omega)).trans (by omega)
             | trace_state)
        | trace_state
      · have hfs : fs L = fOf q := fs_ext hlen.symm (fun m hm' => h0 m (by omega))
        have hfin := d5_fin hfs
        have hjL : L.take j = L := by rw [List.take_of_length_le hjl]
        rw [hjL, hfin.1] at hx
        simp only [Prod.mk.injEq] at hx
        obtain ⟨e1, e2, e3, e4, e5⟩ := hx
        have hfs' : fs L = fOf (kdOf T) := hkq ▸ hfs
        have g2 := mG_len hm 2
        have g11 := mG_len hm 11
        have hn := u32_6 (z := (gVal (mG L 11) : Int)) ⟨by omega, by have := mG_11 hm hfs'; omega⟩
        rw [hn] at e2
        cases ha : dAsks q
        · have ha' : dAsks (kdOf T) = false := hkq ▸ ha
          have e := de_3 hm hfs' ha'
          have hF5 : ¬(fOf q).length = 5 := fun e => by have := asks_tl (fo5.1 e); rw [ha] at this; cases this
          rw [ha] at e1 e3 e5
          simp only [Bool.false_eq_true, if_false] at e1 e3 e5
          cbv
          repeat' (first | with_reducible exact True.intro | with_reducible exact dr_ok hA (by kernel_rfl) | with_reducible refine And.intro ?_ ?_ | (intro hc; cbv))
          all_goals first
            | (exfalso; clear h0; subst hA; simp [-List.getD_eq_getElem?_getD, sS] at *; omega)
            | skip
          all_goals (clear h0; subst hA; simp [-List.getD_eq_getElem?_getD, sS, ha] at *)
          all_goals first
            | done
            | omega
            | (simp [xK, xA, xS, xP, xR, xC, e, ha', *]; done)
            | (unfold xK; rw [if_pos e]; exact hkq)
            | trace_state
        · have ha' : dAsks (kdOf T) = true := hkq ▸ ha
          rw [ha] at e1 e3 e5
          simp only [if_true] at e1 e3 e5
          clear hfin
          cbv
          repeat' (first | with_reducible exact True.intro | with_reducible exact dr_ok hA (by kernel_rfl) | with_reducible refine And.intro ?_ ?_ | (intro hc; cbv))
          all_goals first
            | (exfalso; clear h0; subst hA; simp [-List.getD_eq_getElem?_getD, sS] at *; omega)
            | skip
          all_goals (clear h0; subst hA; simp [-List.getD_eq_getElem?_getD, sS, ha] at *)
          all_goals first
            | done
            | omega
            | (rw [e3]; omega)
            | (have e := de_4 hm hfs' ha' (by rw [← e3]; exact hc)
               have b := dE_bad (T := T) (L := L) (by rw [e]; decide)
               first | exact b.1.symm | exact b.2.1.symm | exact b.2.2.1.symm | exact b.2.2.2.1 | exact b.2.2.2.2.1 | exact b.2.2.2.2.2 | exact e.symm)
            | exact fun h => ⟨h, by have q5 := d5_five hkq hfs (by omega); rw [q5.2.2]; omega⟩
            | (have q5 := d5_five hkq hfs (by omega)
               rw [q5.2.1, q5.2.2] at hc
               have e := de_5 hm hfs' ha' (by rw [← e3]; assumption) q5.1 hc.2
               have b := dE_bad (T := T) (L := L) (by rw [e]; decide)
               first | exact b.1.symm | exact b.2.1.symm | exact b.2.2.1.symm | exact b.2.2.2.1 | exact b.2.2.2.2.1 | exact b.2.2.2.2.2 | exact e.symm)
            | (have e := de_6 hm hfs' ha' (by rw [← e3]; assumption) (fun t => by
                 have h5 : (fOf q).length = 5 := fo5.2 (hkq ▸ t)
                 have q5 := d5_five hkq hfs h5
                 have := hc (by omega)
                 rw [q5.2.1, q5.2.2] at this
                 exact this)
               first
                 | (unfold xK; rw [if_pos e]; exact hkq)
                 | (unfold xA; rw [if_pos e, if_pos ha']; exact e1)
                 | (unfold xP; rw [if_pos e, if_pos ha']; exact e3)
                 | (unfold xS; rw [if_pos e]; exact e2)
                 | (unfold xR; rw [if_pos e]; exact e4)
                 | (unfold xC; rw [if_pos e, if_pos ha']; exact e5)
                 | exact e.symm)
            | trace_state
end Go.Vd

/- Deals: the law DealRight. -/
set_option linter.unusedVariables false
set_option linter.unusedSimpArgs false
set_option maxRecDepth 100000
set_option maxHeartbeats 8000000
namespace Go.Vd
open Go.Proofs
noncomputable def c_rRead6 : Ct := fun A args => match args with
  | [.agg [.str T, .slc n 2 f]] => some (some (A.tp fun _ => isRow eI (0, []) 2 n f ∧ n ≤ 1000000 ∧ ∀ i, ((lstOf eI (0, []) 2 n f).getD i (0, [])).2.length ≤ 1000000), .tup [.agg [.int .i64 (A.ti fun _ => xK T (lstOf eI (0, []) 2 n f)), .str (A.ts fun _ => xP T (lstOf eI (0, []) 2 n f)), .int .u64 (A.ti fun _ => xA T (lstOf eI (0, []) 2 n f)), .int .u32 (A.ti fun _ => xS T (lstOf eI (0, []) 2 n f)), .str (A.ts fun _ => xR T (lstOf eI (0, []) 2 n f)), .str (A.ts fun _ => xC T (lstOf eI (0, []) 2 n f))], .int .i64 (A.ti fun _ => dE T (lstOf eI (0, []) 2 n f))])
  | _ => none
noncomputable def gO9 : Ar → Pu := addC 36 c_rRead6 (gO8)
theorem gO9_ok : PuOk Tryd.prog gl0 (gO9 std) := by
  refine addC_ok (gO8_ok) ⟨_, Tryd.func36, rfl, by decide⟩ ?_
  · intro args p r h hp
    unfold c_rRead6 at h
    split at h <;> cases h
    exact good_sv (good_rRead6 _ _ (by rw [lstOf_length hp.1]; exact hp.2.1) hp.2.2) ⟨⟨_, rfl, rfl, hp.1.sv, trivial⟩, trivial⟩
theorem good_DealRight (k a s kk : Int) (p r c T : List UInt8) (L : List It) (ha : 0 ≤ a ∧ a < 18446744073709551616) (hs : 0 ≤ s ∧ s < 4294967296) : GoodP Tryd.prog gl0 7 [.agg [.int .i64 k, .str p, .int .u64 a, .int .u32 s, .str r, .str c], .agg [.str T, rowS eI (0, []) 2 std fun _ => L], .int .i64 kk] (.bool true) := by
  refine fn_sound' (T := seatT) (G := gO9) (X := noX) seatT_ok gO9_ok noX_ok noI_ok mixed Tryd.func7 (.one) (fun A => [.agg [.int .i64 k, .str p, .int .u64 a, .int .u32 s, .str r, .str c], .agg [.str T, rowS eI (0, []) 2 A fun _ => L], .int .i64 kk]) (fun A => .bool true) fun A hA => ?_
  cbv
  repeat' (first | with_reducible exact True.intro | with_reducible exact dr_ok hA (by kernel_rfl) | with_reducible refine And.intro ?_ ?_ | (intro hc; cbv))
  all_goals (subst hA; simp [-List.getD_eq_getElem?_getD, std_add, std_sub, std_mul, std_quo, std_rem, std_band, std_bor, std_bxor, std_shl, std_shr, std_eq, std_ne, std_lt, std_le, std_conv, std_not, std_beq, std_bne, std_ite, std_want, std_and2, std_sadd, std_seq, std_sne, std_slt, std_sle, std_sgt, std_sge, std_slen, std_sget, std_scut, std_ofNat, std_toNat, std_nsub, std_nadd, std_lenOf, std_nz, std_nneg, std_inb, std_upto, std_slt63, std_grow, std_imp, std_impN, std_tr, std_tb, std_ti, std_ts, std_tn, std_tp, std_nmin, std_makes, std_room, std_zeros, std_nilq, std_notq, std_eqi, std_eqn, std_eqb, std_eqs, std_eqv, std_cat, std_lst, std_rset, std_rcopy, std_shift, std_eqr, std_strOf, std_bytesOf, std_isB, std_zOf, zOf_int, std_isI, isI_int, std_getL, std_nmul, std_sOf, sOf_str, std_isS, isS_str, strOf_lit, lstOf_lit inj_eB, lstOf_lit inj_eZ, lstOf_lit inj_eBs, lstOf_lit inj_eS, isRow_lit, isB_lit, isRow_nil, lstOf_nil inj_eB, lstOf_nil inj_eZ, lstOf_nil inj_eBs, lstOf_nil inj_eS, lstOf_lit inj_eI] at *)
  all_goals (have hsh : oSh p r c = true ∧ mSh T L = true := by assumption)
  all_goals (have s1 := oSh_iff.1 hsh.1)
  all_goals (have sm := mSh_iff.1 hsh.2)
  all_goals (have hS := fun i => Nat.le_trans (mSh_getD hsh.2 i) (show 1200 ≤ 1000000 by decide))
  all_goals first
    | omega
    | exact ⟨ha, hs, by omega, by omega, by omega⟩
    | exact ⟨by omega, by omega, by omega⟩
    | exact ⟨by omega, hS⟩
    | (cases e : dR k a s p r c
       · have hw := dw_no e
         first
           | (simp [e, hw.1, hw.2.1, hw.2.2] at hc ⊢; done)
           | (simp [e, hw.1, hw.2.1, hw.2.2]; done)
           | (simp [e, hw.1, hw.2.1, hw.2.2]; omega)
           | trace_state
       · have hw := dw_yes e
         have hl : (dIs k a s p r c).length ≤ 5 := by rw [dIs_len]; exact (fOf_len k).2
         first
           | (simp [e, hw.1, hw.2.1, hw.2.2] at hc ⊢; done)
           | (simp [e, hw.1, hw.2.1, hw.2.2]; done)
           | (simp [e, hw.1, hw.2.1, hw.2.2]; omega)
           | trace_state)
    | trace_state
end Go.Vd
