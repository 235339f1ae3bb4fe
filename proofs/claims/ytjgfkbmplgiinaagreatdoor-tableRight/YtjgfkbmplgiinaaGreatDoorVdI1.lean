/- The key's functions at a door: order, right, shards. -/
import Derived.Test.YtjgfkbmplgiinaaGreatDoorVdM1
import Derived.WalkKit
import Derived.Lib.Walk
import Derived.Lib.AppendZerosOnto
import Derived.Lib.Overlaps
import Derived.Lib.SliceRun
import Derived.Laws.Externs
import Derived.Deep.RegionLaw
import Derived.Test.YtjgfkbmplgiinaaGreatDoorVdX2
set_option linter.unusedVariables false
set_option linter.unusedSimpArgs false
set_option maxRecDepth 100000
set_option maxHeartbeats 4000000
namespace Go.Vd
open Go.Proofs
def sKey (A : Ar) (s : Int) (r : List UInt8) : SV := .agg [.int .u32 s, .str r]
attribute [local irreducible] vc
theorem good_nan32 (a : Int) : GoodP Tryz.prog gl0 82 [.int .u32 a] (.bool false) := by
  refine fn_sound' (T := seatT) (G := noC) (X := noX) seatT_ok noC_ok noX_ok noI_ok mixed Tryz.func82 (.one) (fun A => [.int .u32 a]) (fun A => .bool false) fun A hA => ?_
  cbv
  repeat' (first | with_reducible exact True.intro | with_reducible exact dr_ok hA (by kernel_rfl) | with_reducible refine And.intro ?_ ?_ | (intro hc; cbv))
  all_goals (subst hA; simp [-List.getD_eq_getElem?_getD, sS])
theorem good_nanS (a : List UInt8) : GoodP Tryz.prog gl0 83 [.str a] (.bool false) := by
  refine fn_sound' (T := seatT) (G := noC) (X := noX) seatT_ok noC_ok noX_ok noI_ok mixed Tryz.func83 (.one) (fun A => [.str a]) (fun A => .bool false) fun A hA => ?_
  cbv
  repeat' (first | with_reducible exact True.intro | with_reducible exact dr_ok hA (by kernel_rfl) | with_reducible refine And.intro ?_ ?_ | (intro hc; cbv))
  all_goals (subst hA; simp [-List.getD_eq_getElem?_getD, sS])
noncomputable def c_nan32 : Ct := fun A args => match args with
  | [.int .u32 a] => some (none, .bool false)
  | _ => none
noncomputable def c_nanS : Ct := fun A args => match args with
  | [.str a] => some (none, .bool false)
  | _ => none
noncomputable def gk1 : Ar → Pu := addC 82 c_nan32 (addC 83 c_nanS (gm1))
theorem gk1_ok : PuOk Tryz.prog gl0 (gk1 std) := by
  refine addC_ok (addC_ok (gm1_ok) ⟨_, Tryz.func83, rfl, by decide⟩ ?_) ⟨_, Tryz.func82, rfl, by decide⟩ ?_
  · intro args p r h hp
    unfold c_nanS at h
    split at h <;> cases h
    exact good_nanS _
  · intro args p r h hp
    unfold c_nan32 at h
    split at h <;> cases h
    exact good_nan32 _
theorem good_cmp32 (a b : Int) : GoodP Tryz.prog gl0 54 [.int .u32 a, .int .u32 b] (.int .i64 (std.ti fun _ => ordI a b)) := by
  refine fn_sound' (T := seatT) (G := gk1) (X := noX) seatT_ok gk1_ok noX_ok noI_ok mixed Tryz.func54 (.one) (fun A => [.int .u32 a, .int .u32 b]) (fun A => .int .i64 (A.ti fun _ => ordI a b)) fun A hA => ?_
  cbv
  repeat' (first | with_reducible exact True.intro | with_reducible exact dr_ok hA (by kernel_rfl) | with_reducible refine And.intro ?_ ?_ | (intro hc; cbv))
  all_goals (subst hA; simp [sS] at *)
  all_goals (unfold ordI)
  all_goals first
    | (rw [if_pos (by assumption)]; done)
    | (rw [if_neg (by omega), if_pos (by omega)]; done)
    | (rw [if_neg (by omega), if_neg (by omega)]; done)
    | trace_state
theorem good_cmpS (a b : List UInt8) : GoodP Tryz.prog gl0 55 [.str a, .str b] (.int .i64 (std.ti fun _ => ordS a b)) := by
  refine fn_sound' (T := seatT) (G := gk1) (X := noX) seatT_ok gk1_ok noX_ok noI_ok mixed Tryz.func55 (.one) (fun A => [.str a, .str b]) (fun A => .int .i64 (A.ti fun _ => ordS a b)) fun A hA => ?_
  cbv
  repeat' (first | with_reducible exact True.intro | with_reducible exact dr_ok hA (by kernel_rfl) | with_reducible refine And.intro ?_ ?_ | (intro hc; cbv))
  all_goals (subst hA; simp only [sS, bytesLess_eq] at *)
  all_goals (try simp only [decide_eq_true_eq, decide_eq_false_iff_not, Bool.not_eq_false', Bool.not_eq_true', Bool.or_eq_true, Bool.or_eq_false_iff, beq_iff_eq, beq_eq_false_iff_ne] at *)
  all_goals first
    | (simp at *; done)
    | (rcases triS a b with ⟨h1, n, e⟩ | ⟨n, e⟩ | ⟨h1, n, e⟩ <;> (first | (rw [e]; done) | exact absurd h1 (by assumption) | (exfalso; subst n; simp_all [List.lt_irrefl]; done) | (exfalso; simp_all; done) | (exfalso; exact List.lt_irrefl _ (List.lt_trans h1 (by assumption))) | (exfalso; (rcases (by assumption : a < b ∨ a = b) with h4 | h4); (exact List.lt_irrefl _ (List.lt_trans h1 h4)); exact n h4)))
    | trace_state
theorem good_cOr (L : List Int) (hL : L.length ≤ 1000) : GoodP Tryz.prog gl0 53 [rowS eZ 0 1 std fun _ => L] (.int .i64 (std.ti fun _ => orL L)) := by
  refine fn_sound' (T := seatT) (G := noC) (X := noX) seatT_ok noC_ok noX_ok noI_ok mixed Tryz.func53 (.one) (fun A => [rowS eZ 0 1 A fun _ => L]) (fun A => .int .i64 (A.ti fun _ => orL L)) fun A hA => ?_
  cbv
  repeat' (first | with_reducible exact True.intro | with_reducible exact dr_ok hA (by kernel_rfl) | with_reducible refine And.intro ?_ ?_ | (intro hc; cbv))
  refine ⟨⟨{i : Nat // i ≤ L.length ∧ ∀ x ∈ L.take i, x = 0}, fun b i => [(8, .int .i64 (i.1 : Nat))], fun b i => [], fun i => L.length - i.1, true⟩, ⟨⟨0, by omega, by simp⟩, ?_⟩, ?_⟩
  · cbv
    subst hA
    simp [-List.getD_eq_getElem?_getD, sS]
  · rintro ⟨i, hi, hz⟩
    cbv
    repeat' (first | with_reducible exact True.intro | with_reducible exact dr_ok hA (by kernel_rfl) | with_reducible refine And.intro ?_ ?_ | (intro hc; cbv))
    rotate_right 2
    · have hlt : i < L.length := by subst hA; simp [sS] at *; omega
      have h0 : L.getD i 0 = 0 := by subst hA; simpa [-List.getD_eq_getElem?_getD, sS] using hc
      refine ⟨⟨i + 1, by omega, fun x hx => ?_⟩, ?_, show L.length - (i + 1) < L.length - i by omega⟩
      · rw [← take_snoc (d := 0) hlt] at hx
        rcases List.mem_append.1 hx with hx | hx
        · exact hz x hx
        · rw [List.mem_singleton.1 hx]; exact h0
      · cbv
        subst hA
        simp [sS]
        exact w64 (by omega)
    · have hie : i = L.length := by subst hA; simp [sS] at *; omega
      subst hie
      rw [List.take_length] at hz
      subst hA
      simp [sS, orL_all hz]
    · subst hA; simp [sS] at *; omega
    · have hlt : i < L.length := by subst hA; simp [sS] at *; omega
      have h0 : ¬L.getD i 0 = 0 := by subst hA; simpa [-List.getD_eq_getElem?_getD, sS] using hc
      have h1 := orL_zero hz hlt
      rw [if_neg h0] at h1
      subst hA
      simp [-List.getD_eq_getElem?_getD, sS, h1]
noncomputable def c_cmp32 : Ct := fun A args => match args with
  | [.int .u32 a, .int .u32 b] => some (none, .int .i64 (A.ti fun _ => ordI a b))
  | _ => none
noncomputable def c_cmpS : Ct := fun A args => match args with
  | [.str a, .str b] => some (none, .int .i64 (A.ti fun _ => ordS a b))
  | _ => none
noncomputable def c_cOr : Ct := fun A args => match args with
  | [.slc n 1 f] => some (some (A.tp fun _ => isRow eZ 0 1 n f ∧ n ≤ 1000), .int .i64 (A.ti fun _ => orL (lstOf eZ 0 1 n f)))
  | _ => none
noncomputable def gk2 : Ar → Pu := addC 54 c_cmp32 (addC 55 c_cmpS (addC 53 c_cOr (gk1)))
theorem gk2_ok : PuOk Tryz.prog gl0 (gk2 std) := by
  refine addC_ok (addC_ok (addC_ok (gk1_ok) ⟨_, Tryz.func53, rfl, by decide⟩ ?_) ⟨_, Tryz.func55, rfl, by decide⟩ ?_) ⟨_, Tryz.func54, rfl, by decide⟩ ?_
  · intro args p r h hp
    unfold c_cOr at h
    split at h <;> cases h
    exact good_sv (good_cOr _ (by rw [lstOf_length hp.1]; exact hp.2)) ⟨hp.1.sv, trivial⟩
  · intro args p r h hp
    unfold c_cmpS at h
    split at h <;> cases h
    exact good_cmpS _ _
  · intro args p r h hp
    unfold c_cmp32 at h
    split at h <;> cases h
    exact good_cmp32 _ _
theorem q2 (x y : Int) : Reps eZ 0 1 2 (lstS [[SV.int .i64 x], [SV.int .i64 y]]) [x, y] := Reps.lst (l := [_, _]) (L := [x, y]) ⟨cell_eZ x, cell_eZ y, trivial⟩
theorem good_kOrder (s t : Int) (r q : List UInt8) : GoodP Tryz.prog gl0 33 [sKey std s r, sKey std t q] (.int .i64 (std.ti fun _ => ordK s r t q)) := by
  refine fn_sound' (T := seatT) (G := gk2) (X := noX) seatT_ok gk2_ok noX_ok noI_ok mixed Tryz.func33 (.one) (fun A => [sKey A s r, sKey A t q]) (fun A => .int .i64 (A.ti fun _ => ordK s r t q)) fun A hA => ?_
  cbv
  repeat' (first | with_reducible exact True.intro | with_reducible exact dr_ok hA (by kernel_rfl) | with_reducible refine And.intro ?_ ?_ | (intro hc; cbv))
  all_goals (subst hA; simp only [sS])
  · exact ⟨⟨_, q2 _ _⟩, by omega⟩
  · rw [lstOf_eq inj_eZ (q2 _ _), ordK_or]
theorem good_kMix (h b : Int) : GoodP Tryz.prog gl0 68 [.int .u32 h, .int .u8 b] (.int .u32 (std.ti fun _ => mixI h b)) := by
  refine fn_sound' (T := seatT) (G := noC) (X := noX) seatT_ok noC_ok noX_ok noI_ok mixed Tryz.func68 (.one) (fun A => [.int .u32 h, .int .u8 b]) (fun A => .int .u32 (A.ti fun _ => mixI h b)) fun A hA => ?_
  cbv
  repeat' (first | with_reducible exact True.intro | with_reducible exact dr_ok hA (by kernel_rfl) | with_reducible refine And.intro ?_ ?_ | (intro hc; cbv))
  all_goals (subst hA; simp [sS, mixI] at *)
theorem good_kRight (s : Int) (r : List UInt8) : GoodP Tryz.prog gl0 58 [sKey std s r] (.bool (std.tb fun _ => keyOk s r)) := by
  refine fn_sound' (T := seatT) (G := noC) (X := noX) seatT_ok noC_ok noX_ok noI_ok mixed Tryz.func58 (.one) (fun A => [sKey A s r]) (fun A => .bool (A.tb fun _ => keyOk s r)) fun A hA => ?_
  cbv
  repeat' (first | with_reducible exact True.intro | with_reducible exact dr_ok hA (by kernel_rfl) | with_reducible refine And.intro ?_ ?_ | (intro hc; cbv))
  rotate_right
  · have h0 : s ≤ 999999 ∧ r.length = 12 := by subst hA; simp [sS] at *; omega
    refine ⟨⟨{i : Nat // i ≤ r.length ∧ (r.take i).all okB = true}, fun b i => [(16, .int .i64 (i.1 : Nat))], fun b i => [], fun i => r.length - i.1, true⟩, ⟨⟨0, by omega, by simp⟩, ?_⟩, ?_⟩
    · cbv
      subst hA
      simp [-List.getD_eq_getElem?_getD, sS]
    · rintro ⟨i, hi, hz⟩
      cbv
      repeat' (first | with_reducible exact True.intro | with_reducible exact dr_ok hA (by kernel_rfl) | with_reducible refine And.intro ?_ ?_ | (intro hc; cbv))
      all_goals first
        | (fail_if_success (refine Exists.intro ?_ ?_)
           subst hA
           simp [-List.getD_eq_getElem?_getD, sS, gD] at *
           done)
        | (fail_if_success (refine Exists.intro ?_ ?_)
           subst hA
           simp [-List.getD_eq_getElem?_getD, sS, gD] at *
           first
             | omega
             | (constructor <;> omega)
             | (have hlt : i < r.length := by omega
                have hx : okB (r.getD i 0) = false := by (simp [-List.getD_eq_getElem?_getD, okB]; omega)
                rw [keyOk, all_false hlt hx]; simp; done)
             | (have hie : i = r.length := by omega
                subst hie
                rw [List.take_of_length_le (Nat.le_refl _)] at hz
                simp [keyOk, h0]; exact hz)
             | trace_state)
        | (have hlt : i < r.length := by clear hz; subst hA; simp [sS] at *; omega
           have hx : okB (r.getD i 0) = true := by
             clear hz
             subst hA
             simp [-List.getD_eq_getElem?_getD, sS, gD] at *
             simp [-List.getD_eq_getElem?_getD, okB]
             omega
           refine ⟨⟨i + 1, by omega, by rw [all_take hlt, hz, hx]; rfl⟩, ?_, show r.length - (i + 1) < r.length - i by omega⟩
           cbv
           subst hA
           simp [sS]
           exact w64 (by omega))
        | trace_state
  all_goals (subst hA; simp [sS] at *)
  all_goals (rw [Bool.eq_false_iff]; intro h; simp [keyOk] at h; omega)
noncomputable def c_kMix : Ct := fun A args => match args with
  | [.int .u32 h, .int .u8 b] => some (none, .int .u32 (A.ti fun _ => mixI h b))
  | _ => none
noncomputable def c_kRight : Ct := fun A args => match args with
  | [.agg [.int .u32 s, .str r]] => some (none, .bool (A.tb fun _ => keyOk s r))
  | _ => none
noncomputable def gk7 : Ar → Pu := addC 68 c_kMix (addC 58 c_kRight (gk2))
theorem gk7_ok : PuOk Tryz.prog gl0 (gk7 std) := by
  refine addC_ok (addC_ok (gk2_ok) ⟨_, Tryz.func58, rfl, by decide⟩ ?_) ⟨_, Tryz.func68, rfl, by decide⟩ ?_
  · intro args p r h hp
    unfold c_kRight at h
    split at h <;> cases h
    exact good_kRight _ _
  · intro args p r h hp
    unfold c_kMix at h
    split at h <;> cases h
    exact good_kMix _ _
def shardI (s : Int) (r : List UInt8) (m : Int) : Int := if keyOk s r = true ∧ 1 ≤ m ∧ m ≤ 16 then ((fnv (decs 6 s.toNat ++ r) % m.toNat : Nat) : Int) else -1
theorem keyOk_le {s : Int} {r : List UInt8} (h : keyOk s r = true) : s ≤ 999999 ∧ r.length = 12 := by
  simp [keyOk] at h
  exact ⟨h.1, h.2.1⟩
theorem fnv_take {S : List UInt8} {i : Nat} (h : i < S.length) : fnv (S.take (i + 1)) = fnv1 (fnv (S.take i)) (S.getD i 0) := by
  rw [← take_snoc (d := 0) h, fnv_snoc]
theorem modM {h : Nat} {m : Int} (hh : h < 4294967296) (hm : 1 ≤ m ∧ m ≤ 16) : ((h % m.toNat : Nat) : Int) = (h : Int) % m ∧ 0 ≤ (h : Int) % m ∧ (h : Int) % m < 16 := by
  have h1 := Int.emod_nonneg (h : Int) (b := m) (by omega)
  have h2 := Int.emod_lt_of_pos (h : Int) (b := m) (by omega)
  refine ⟨?_, h1, by omega⟩
  rw [Int.natCast_emod, show ((m.toNat : Nat) : Int) = m by omega]
def uO (j : Nat) : Nat := if j < 6 then 10 ^ (5 - j) else 0
theorem six {j : Nat} (h : j ≤ 6) : j = 0 ∨ j = 1 ∨ j = 2 ∨ j = 3 ∨ j = 4 ∨ j = 5 ∨ j = 6 := by omega
theorem uO_pos {j : Nat} (h : j ≤ 6) : (0 < uO j ↔ j < 6) ∧ uO j ≤ 100000 := by
  rcases six h with h | h | h | h | h | h | h <;> subst h <;> simp [uO]
theorem uO_step2 {j : Nat} (h : j < 6) : IntKind.u32.wrap ((uO j : Int) / 10) = (uO (j + 1) : Int) := by
  rcases six (Nat.le_of_lt h) with h | h | h | h | h | h | h <;> subst h <;> first | rfl | omega
theorem wU32 {n : Int} (h : 0 ≤ n ∧ n < 4294967296) : IntKind.u32.wrap n = n := by rw [IntKind.wrap_u32]; omega
theorem kdig {s : Int} (hs : 0 ≤ s ∧ s ≤ 999999) {j : Nat} (h : j < 6) : IntKind.u8.wrap (IntKind.u32.wrap (48 + (IntKind.u32.wrap (s.tdiv (uO j : Int))).tmod 10)) = (((decs 6 s.toNat).getD j 0).toNat : Int) := by
  rw [decs_getD h, Int.tdiv_eq_ediv_of_nonneg hs.1]
  obtain ⟨n, rfl⟩ : ∃ n : Nat, s = n := ⟨s.toNat, by omega⟩
  rw [Int.toNat_natCast]
  have e : uO j = 10 ^ (5 - j) := if_pos h
  have hd : n / uO j ≤ n := Nat.div_le_self _ _
  rw [← Int.natCast_ediv]
  rw [← e]
  generalize n / uO j = q at hd ⊢
  rw [wU32 (n := (q : Int)) (by omega), Int.tmod_eq_emod_of_nonneg (by omega), IntKind.wrap_u32, IntKind.wrap_u8, UInt8.toNat_ofNat']
  omega
theorem good_kShard (s m : Int) (r : List UInt8) (hs : 0 ≤ s ∧ s < 4294967296) : GoodP Tryz.prog gl0 40 [sKey std s r, .int .i64 m] (.int .i64 (std.ti fun _ => shardI s r m)) := by
  refine fn_sound' (T := seatT) (G := gk7) (X := noX) seatT_ok gk7_ok noX_ok noI_ok mixed Tryz.func40 (.one) (fun A => [sKey A s r, .int .i64 m]) (fun A => .int .i64 (A.ti fun _ => shardI s r m)) fun A hA => ?_
  cbv
  repeat' (first | with_reducible exact True.intro | with_reducible exact dr_ok hA (by kernel_rfl) | with_reducible refine And.intro ?_ ?_ | (intro hc; cbv))
  rotate_right
  · have hk : keyOk s r = true ∧ 1 ≤ m ∧ m ≤ 16 := by subst hA; simp [sS] at hc; exact ⟨hc.1.1, hc.1.2, hc.2⟩
    have hs9 := keyOk_le hk.1
    obtain ⟨D, hD⟩ : ∃ D, D = decs 6 s.toNat := ⟨_, rfl⟩
    have hDl : D.length = 6 := by rw [hD, decs_len]
    refine ⟨⟨{p : Nat × Nat × Nat // p.1 ≤ 6 ∧ p.2.1 = uO p.1 ∧ p.2.2 = fnv (D.take p.1)}, fun b p => [(5, .int .u32 (p.1.2.2 : Nat)), (6, .int .u32 (p.1.2.1 : Nat))], fun b p => [], fun p => 6 - p.1.1, true⟩, ⟨⟨(0, 100000, 2166136261), by omega, rfl, rfl⟩, ?_⟩, ?_⟩
    · cbv
      subst hA
      simp [sS]
    · rintro ⟨⟨j, u, h⟩, hj, hu, hh⟩
      simp only at hj hu hh
      have hup := uO_pos hj
      cbv
      repeat' (first | with_reducible exact True.intro | with_reducible exact dr_ok hA (by kernel_rfl) | with_reducible refine And.intro ?_ ?_ | (intro hc; cbv))
      all_goals first
        | (fail_if_success (refine Exists.intro ?_ ?_)
           clear hh hu
           subst hA
           simp [sS] at *
           done)
        | (fail_if_success (refine Exists.intro ?_ ?_)
           clear hh
           subst hA
           simp [sS] at *
           omega)
        | skip
      · have hlt : j < 6 := by rw [hu] at hc; clear hh; subst hA; exact hup.1.1 (by simpa [sS] using hc)
        obtain ⟨j', hj'⟩ : ∃ j', j' = j + 1 := ⟨_, rfl⟩
        obtain ⟨u', hu'⟩ : ∃ u', u' = uO j' := ⟨_, rfl⟩
        obtain ⟨h', hh'⟩ : ∃ h', h' = fnv (D.take j') := ⟨_, rfl⟩
        refine ⟨⟨(j', u', h'), by omega, hu', hh'⟩, ?_, show 6 - j' < 6 - j by omega⟩
        cbv
        subst hA
        simp [-List.getD_eq_getElem?_getD, sS]
        have e1 := kdig (s := s) ⟨hs.1, hs9.1⟩ hlt
        rw [← hu, ← hD] at e1
        refine ⟨?_, ?_⟩
        · rw [e1, hh, mixI_fnv, hh', hj', take_snoc (by omega)]
        · rw [hu, hu', hj']; exact uO_step2 hlt
      · have hje : j = 6 := by rw [hu] at hc; clear hh; subst hA; (have h5 : uO j = 0 := by simpa [sS] using hc); (rcases Nat.lt_or_ge j 6 with h4 | h4; (have := hup.1.2 h4; omega); omega)
        rw [hje, List.take_of_length_le (by omega)] at hh
        refine ⟨⟨{p : Nat × Nat // p.1 ≤ r.length ∧ p.2 = fnv (D ++ r.take p.1)}, fun b p => [(5, .int .u32 (p.1.2 : Nat)), (35, .int .i64 (p.1.1 : Nat))], fun b p => [], fun p => r.length - p.1.1, true⟩, ⟨⟨(0, h), by omega, by rw [hh]; simp⟩, ?_⟩, ?_⟩
        · cbv
          subst hA
          simp [sS]
        · rintro ⟨⟨i, g⟩, hi, hg⟩
          simp only at hi hg
          cbv
          repeat' (first | with_reducible exact True.intro | with_reducible exact dr_ok hA (by kernel_rfl) | with_reducible refine And.intro ?_ ?_ | (intro hc; cbv))
          all_goals first
            | (fail_if_success (refine Exists.intro ?_ ?_)
               clear hg hu
               subst hA
               simp [sS] at *
               done)
            | (fail_if_success (refine Exists.intro ?_ ?_)
               clear hg hu
               subst hA
               simp [sS] at *
               first
                 | omega
                 | (rw [wU32 (by omega)]; omega))
            | skip
          · have hlt : i < r.length := by clear hg; subst hA; simp [sS] at *; omega
            obtain ⟨i', hi'⟩ : ∃ i', i' = i + 1 := ⟨_, rfl⟩
            obtain ⟨g', hg'⟩ : ∃ g', g' = fnv (D ++ r.take i') := ⟨_, rfl⟩
            refine ⟨⟨(i', g'), by omega, hg'⟩, ?_, show r.length - i' < r.length - i by omega⟩
            cbv
            subst hA
            simp [-List.getD_eq_getElem?_getD, sS, gD]
            refine ⟨?_, (w64 (by omega)).trans (by omega)⟩
            rw [hg, mixI_fnv, hg', hi', List.append_assoc, take_snoc hlt]
          · have hie : i = r.length := by clear hg; subst hA; simp [sS] at *; omega
            rw [hie, List.take_length, hD] at hg
            have hb := fnv_lt (decs 6 s.toNat ++ r)
            have hq := modM hb hk.2
            subst hA
            simp only [sS, Int.ofNat_eq_natCast]
            rw [wU32 (by omega), Int.tmod_eq_emod_of_nonneg (by omega), shardI, if_pos hk, hq.1, hg, w64 (by omega)]
  all_goals (subst hA; simp [sS] at *)
  all_goals first
    | (rw [shardI, if_neg (fun h => by rcases hc with (hc | hc) | hc; (rw [h.1] at hc; cases hc); omega; omega)]; done)
    | trace_state
noncomputable def c_kOrder : Ct := fun A args => match args with
  | [.agg [.int .u32 s, .str r], .agg [.int .u32 t, .str q]] => some (none, .int .i64 (A.ti fun _ => ordK s r t q))
  | _ => none
noncomputable def c_kShard : Ct := fun A args => match args with
  | [.agg [.int .u32 s, .str r], .int .i64 m] => some (some (A.tp fun _ => 0 ≤ s ∧ s < 4294967296), .int .i64 (A.ti fun _ => shardI s r m))
  | _ => none
noncomputable def gk8 : Ar → Pu := addC 33 c_kOrder (addC 40 c_kShard (gk7))
theorem gk8_ok : PuOk Tryz.prog gl0 (gk8 std) := by
  refine addC_ok (addC_ok (gk7_ok) ⟨_, Tryz.func40, rfl, by decide⟩ ?_) ⟨_, Tryz.func33, rfl, by decide⟩ ?_
  · intro args p r h hp
    unfold c_kShard at h
    split at h <;> cases h
    exact good_kShard _ _ _ hp
  · intro args p r h hp
    unfold c_kOrder at h
    split at h <;> cases h
    exact good_kOrder _ _ _ _
end Go.Vd

set_option linter.unusedVariables false
set_option linter.unusedSimpArgs false
set_option maxRecDepth 100000
set_option maxHeartbeats 4000000
namespace Go.Vd
open Go.Proofs
structure Ent where
  s : Int
  r : List UInt8
  st : Int
  pan : List UInt8
  am : Int
  code : List UInt8
  tr : Int
  ca : Int
  deriving DecidableEq
def E0 : Ent := ⟨0, [], 0, [], 0, [], 0, 0⟩
def unT (e : Ent) : Bool := decide (e.tr = 0) && decide (e.ca = 0)
def tuR (e : Ent) : Bool := (decide (e.ca = 1) || decide (e.ca = 2)) && (decide (0 ≤ e.tr) && decide (e.tr ≤ 16))
def eSt (e : Ent) : Bool :=
  if e.st = 1 then decide (e.code = []) && unT e else if e.st = 2 then decide (e.code = [48, 48]) && unT e
  else if e.st = 3 then decide (¬e.code = [48, 48]) && (rr 39 e.code && unT e) else if e.st = 4 ∨ e.st = 5 ∨ e.st = 6 then rr 39 e.code && tuR e else false
def eR (e : Ent) : Bool := keyOk e.s e.r && (decide ((e.pan.length : Int) ≤ 19) && (lFine e.pan && (decide (e.am < 1000000000000) && eSt e)))
theorem eR_no {s st am tr ca : Int} {r pan code : List UInt8} (hc : ((keyOk s r = false ∨ (19 : Int) < (pan.length : Int)) ∨ lFine pan = false) ∨ 1000000000000 ≤ am) : eR ⟨s, r, st, pan, am, code, tr, ca⟩ = false := by
  rw [Bool.eq_false_iff]
  intro h
  simp only [eR, Bool.and_eq_true, decide_eq_true_eq] at h
  rcases hc with ((hc | hc) | hc) | hc
  · rw [hc] at h; cases h.1
  · omega
  · rw [hc] at h; cases h.2.2.1
  · omega
theorem eR_st {e : Ent} (h : ((keyOk e.s e.r = true ∧ (e.pan.length : Int) ≤ 19) ∧ lFine e.pan = true) ∧ e.am < 1000000000000) : eR e = eSt e := by
  unfold eR
  rw [h.1.1.1, decide_eq_true h.1.1.2, h.1.2, decide_eq_true h.2]
  rfl
attribute [local irreducible] vc
theorem good_sUn (s st am tr ca : Int) (r pan code : List UInt8) : GoodP Tryz.prog gl0 60 [.agg [.int .u32 s, .str r, .int .i64 st, .str pan, .int .u64 am, .str code, .int .i64 tr, .int .i64 ca]] (.bool (std.tb fun _ => unT ⟨s, r, st, pan, am, code, tr, ca⟩)) := by
  refine fn_sound' (T := seatT) (G := noC) (X := noX) seatT_ok noC_ok noX_ok noI_ok mixed Tryz.func60 (.one) (fun A => [.agg [.int .u32 s, .str r, .int .i64 st, .str pan, .int .u64 am, .str code, .int .i64 tr, .int .i64 ca]]) (fun A => .bool (A.tb fun _ => unT ⟨s, r, st, pan, am, code, tr, ca⟩)) fun A hA => ?_
  cbv
  repeat' (first | with_reducible exact True.intro | with_reducible exact dr_ok hA (by kernel_rfl) | with_reducible refine And.intro ?_ ?_ | (intro hc; cbv))
  all_goals (subst hA; simp [std_add, std_sub, std_mul, std_quo, std_rem, std_band, std_bor, std_bxor, std_shl, std_shr, std_eq, std_ne, std_lt, std_le, std_conv, std_not, std_beq, std_bne, std_ite, std_want, std_and2, std_sadd, std_seq, std_sne, std_slt, std_sle, std_sgt, std_sge, std_slen, std_sget, std_scut, std_ofNat, std_toNat, std_nsub, std_nadd, std_lenOf, std_nz, std_nneg, std_inb, std_upto, std_slt63, std_grow, std_imp, std_impN, std_tr, std_tb, std_ti, std_ts, std_tn, std_tp, std_nmin, std_nset, std_fset, std_makes, std_room, std_zeros, std_nilq, std_notq, std_eqi, std_eqn, std_eqb, std_eqs, std_eqv, std_cat, std_lst, std_rset, std_rcopy, std_shift, std_eqr, std_strOf, std_bytesOf, std_isB, std_zOf, zOf_int, std_isI, isI_int, std_getL, std_nmul, std_sOf, sOf_str, std_isS, isS_str, std_fadd, std_fsub, std_fav, std_fsv, std_feq, std_fne, std_flt, std_fle, std_fgt, std_fge, std_fOf, std_fTo, std_fTv] at *)
  all_goals (rw [Bool.eq_iff_iff]; simp [unT])
theorem good_sTu (s st am tr ca : Int) (r pan code : List UInt8) : GoodP Tryz.prog gl0 62 [.agg [.int .u32 s, .str r, .int .i64 st, .str pan, .int .u64 am, .str code, .int .i64 tr, .int .i64 ca]] (.bool (std.tb fun _ => tuR ⟨s, r, st, pan, am, code, tr, ca⟩)) := by
  refine fn_sound' (T := seatT) (G := noC) (X := noX) seatT_ok noC_ok noX_ok noI_ok mixed Tryz.func62 (.one) (fun A => [.agg [.int .u32 s, .str r, .int .i64 st, .str pan, .int .u64 am, .str code, .int .i64 tr, .int .i64 ca]]) (fun A => .bool (A.tb fun _ => tuR ⟨s, r, st, pan, am, code, tr, ca⟩)) fun A hA => ?_
  cbv
  repeat' (first | with_reducible exact True.intro | with_reducible exact dr_ok hA (by kernel_rfl) | with_reducible refine And.intro ?_ ?_ | (intro hc; cbv))
  all_goals (subst hA; simp [std_add, std_sub, std_mul, std_quo, std_rem, std_band, std_bor, std_bxor, std_shl, std_shr, std_eq, std_ne, std_lt, std_le, std_conv, std_not, std_beq, std_bne, std_ite, std_want, std_and2, std_sadd, std_seq, std_sne, std_slt, std_sle, std_sgt, std_sge, std_slen, std_sget, std_scut, std_ofNat, std_toNat, std_nsub, std_nadd, std_lenOf, std_nz, std_nneg, std_inb, std_upto, std_slt63, std_grow, std_imp, std_impN, std_tr, std_tb, std_ti, std_ts, std_tn, std_tp, std_nmin, std_nset, std_fset, std_makes, std_room, std_zeros, std_nilq, std_notq, std_eqi, std_eqn, std_eqb, std_eqs, std_eqv, std_cat, std_lst, std_rset, std_rcopy, std_shift, std_eqr, std_strOf, std_bytesOf, std_isB, std_zOf, zOf_int, std_isI, isI_int, std_getL, std_nmul, std_sOf, sOf_str, std_isS, isS_str, std_fadd, std_fsub, std_fav, std_fsv, std_feq, std_fne, std_flt, std_fle, std_fgt, std_fge, std_fOf, std_fTo, std_fTv] at *)
  all_goals (rw [Bool.eq_iff_iff]; simp [tuR]; omega)
theorem good_sCode (c : List UInt8) (hcc : c.length ≤ 1000000) : GoodP Tryz.prog gl0 61 [.str c] (.bool (std.tb fun _ => rr 39 c)) := by
  refine fn_sound' (T := seatT) (G := gk8) (X := noX) seatT_ok gk8_ok noX_ok noI_ok mixed Tryz.func61 (.one) (fun A => [.str c]) (fun A => .bool (A.tb fun _ => rr 39 c)) fun A hA => ?_
  cbv
  repeat' (first | with_reducible exact True.intro | with_reducible exact dr_ok hA (by kernel_rfl) | with_reducible refine And.intro ?_ ?_ | (intro hc; cbv))
  all_goals (subst hA; try simp [std_add, std_sub, std_mul, std_quo, std_rem, std_band, std_bor, std_bxor, std_shl, std_shr, std_eq, std_ne, std_lt, std_le, std_conv, std_not, std_beq, std_bne, std_ite, std_want, std_and2, std_sadd, std_seq, std_sne, std_slt, std_sle, std_sgt, std_sge, std_slen, std_sget, std_scut, std_ofNat, std_toNat, std_nsub, std_nadd, std_lenOf, std_nz, std_nneg, std_inb, std_upto, std_slt63, std_grow, std_imp, std_impN, std_tr, std_tb, std_ti, std_ts, std_tn, std_tp, std_nmin, std_nset, std_fset, std_makes, std_room, std_zeros, std_nilq, std_notq, std_eqi, std_eqn, std_eqb, std_eqs, std_eqv, std_cat, std_lst, std_rset, std_rcopy, std_shift, std_eqr, std_strOf, std_bytesOf, std_isB, std_zOf, zOf_int, std_isI, isI_int, std_getL, std_nmul, std_sOf, sOf_str, std_isS, isS_str, std_fadd, std_fsub, std_fav, std_fsv, std_feq, std_fne, std_flt, std_fle, std_fgt, std_fge, std_fOf, std_fTo, std_fTv] at *)
  all_goals first | exact hcc | trace_state
noncomputable def c_sUn : Ct := fun A args => match args with
  | [.agg [.int .u32 s, .str r, .int .i64 st, .str pan, .int .u64 am, .str code, .int .i64 tr, .int .i64 ca]] => some (none, .bool (A.tb fun _ => unT ⟨s, r, st, pan, am, code, tr, ca⟩))
  | _ => none
noncomputable def c_sTu : Ct := fun A args => match args with
  | [.agg [.int .u32 s, .str r, .int .i64 st, .str pan, .int .u64 am, .str code, .int .i64 tr, .int .i64 ca]] => some (none, .bool (A.tb fun _ => tuR ⟨s, r, st, pan, am, code, tr, ca⟩))
  | _ => none
noncomputable def c_sCode : Ct := fun A args => match args with
  | [.str c] => some (some (A.tp fun _ => c.length ≤ 1000000), .bool (A.tb fun _ => rr 39 c))
  | _ => none
noncomputable def gc1 : Ar → Pu := addC 60 c_sUn (addC 62 c_sTu (addC 61 c_sCode (gk8)))
theorem gc1_ok : PuOk Tryz.prog gl0 (gc1 std) := by
  refine addC_ok (addC_ok (addC_ok (gk8_ok) ⟨_, Tryz.func61, rfl, by decide⟩ ?_) ⟨_, Tryz.func62, rfl, by decide⟩ ?_) ⟨_, Tryz.func60, rfl, by decide⟩ ?_
  · intro args p r h hp
    unfold c_sCode at h
    split at h <;> cases h
    exact good_sCode _ hp
  · intro args p r h hp
    unfold c_sTu at h
    split at h <;> cases h
    exact good_sTu _ _ _ _ _ _ _ _
  · intro args p r h hp
    unfold c_sUn at h
    split at h <;> cases h
    exact good_sUn _ _ _ _ _ _ _ _
theorem good_sRe (s st am tr ca : Int) (r pan code : List UInt8) (hp : pan.length ≤ 100000) (hcc : code.length ≤ 1000000) : GoodP Tryz.prog gl0 35 [.agg [.int .u32 s, .str r, .int .i64 st, .str pan, .int .u64 am, .str code, .int .i64 tr, .int .i64 ca]] (.bool (std.tb fun _ => eR ⟨s, r, st, pan, am, code, tr, ca⟩)) := by
  refine fn_sound' (T := seatT) (G := gc1) (X := noX) seatT_ok gc1_ok noX_ok noI_ok mixed Tryz.func35 (.one) (fun A => [.agg [.int .u32 s, .str r, .int .i64 st, .str pan, .int .u64 am, .str code, .int .i64 tr, .int .i64 ca]]) (fun A => .bool (A.tb fun _ => eR ⟨s, r, st, pan, am, code, tr, ca⟩)) fun A hA => ?_
  cbv
  repeat' (first | with_reducible exact True.intro | with_reducible exact dr_ok hA (by kernel_rfl) | with_reducible refine And.intro ?_ ?_ | (intro hc; cbv))
  all_goals (subst hA; try simp [std_add, std_sub, std_mul, std_quo, std_rem, std_band, std_bor, std_bxor, std_shl, std_shr, std_eq, std_ne, std_lt, std_le, std_conv, std_not, std_beq, std_bne, std_ite, std_want, std_and2, std_sadd, std_seq, std_sne, std_slt, std_sle, std_sgt, std_sge, std_slen, std_sget, std_scut, std_ofNat, std_toNat, std_nsub, std_nadd, std_lenOf, std_nz, std_nneg, std_inb, std_upto, std_slt63, std_grow, std_imp, std_impN, std_tr, std_tb, std_ti, std_ts, std_tn, std_tp, std_nmin, std_nset, std_fset, std_makes, std_room, std_zeros, std_nilq, std_notq, std_eqi, std_eqn, std_eqb, std_eqs, std_eqv, std_cat, std_lst, std_rset, std_rcopy, std_shift, std_eqr, std_strOf, std_bytesOf, std_isB, std_zOf, zOf_int, std_isI, isI_int, std_getL, std_nmul, std_sOf, sOf_str, std_isS, isS_str, std_fadd, std_fsub, std_fav, std_fsv, std_feq, std_fne, std_flt, std_fle, std_fgt, std_fge, std_fOf, std_fTo, std_fTv] at *)
  all_goals first
    | exact hcc
    | exact hp
    | (intro h1 h2; exact ⟨⟨h1, h2⟩, hp⟩)
    | (intro h1; exact ⟨h1, hcc⟩)
    | (exact eR_no (by assumption))
    | (have hq : ((keyOk s r = true ∧ (pan.length : Int) ≤ 19) ∧ lFine pan = true) ∧ am < 1000000000000 := by assumption
       rw [eR_st (e := ⟨s, r, st, pan, am, code, tr, ca⟩) hq]
       unfold eSt
       simp [*]
       done)
    | (have hq : ((keyOk s r = true ∧ (pan.length : Int) ≤ 19) ∧ lFine pan = true) ∧ am < 1000000000000 := by assumption
       rw [eR_st (e := ⟨s, r, st, pan, am, code, tr, ca⟩) hq]
       unfold eSt
       rw [Bool.eq_iff_iff]
       simp [*]
       done)
    | contradiction
    | (have hq : ((keyOk s r = true ∧ (pan.length : Int) ≤ 19) ∧ lFine pan = true) ∧ am < 1000000000000 := by assumption
       rw [eR_st (e := ⟨s, r, st, pan, am, code, tr, ca⟩) hq]
       unfold eSt
       rw [Bool.eq_iff_iff]
       simp [*]
       intros
       exact and_assoc)
    | trace_state
noncomputable def c_sRe : Ct := fun A args => match args with
  | [.agg [.int .u32 s, .str r, .int .i64 st, .str pan, .int .u64 am, .str code, .int .i64 tr, .int .i64 ca]] => some (some (A.tp fun _ => pan.length ≤ 100000 ∧ code.length ≤ 1000000), .bool (A.tb fun _ => eR ⟨s, r, st, pan, am, code, tr, ca⟩))
  | _ => none
noncomputable def gc2 : Ar → Pu := addC 35 c_sRe (gc1)
theorem gc2_ok : PuOk Tryz.prog gl0 (gc2 std) := by
  refine addC_ok (gc1_ok) ⟨_, Tryz.func35, rfl, by decide⟩ ?_
  · intro args p r h hp
    unfold c_sRe at h
    split at h <;> cases h
    exact good_sRe _ _ _ _ _ _ _ _ hp.1 hp.2
end Go.Vd

set_option linter.unusedVariables false
set_option linter.unusedSimpArgs false
set_option maxRecDepth 100000
set_option maxHeartbeats 8000000
namespace Go.Vd
open Go.Proofs
def eE : En Ent := fun A x => [.int .u32 (A.ti fun _ => (x ()).s), .str (A.ts fun _ => (x ()).r), .int .i64 (A.ti fun _ => (x ()).st), .str (A.ts fun _ => (x ()).pan), .int .u64 (A.ti fun _ => (x ()).am), .str (A.ts fun _ => (x ()).code), .int .i64 (A.ti fun _ => (x ()).tr), .int .i64 (A.ti fun _ => (x ()).ca)]
theorem inj_eE : Inj eE 8 := fun x y h => by
  obtain ⟨s0, a0, b0⟩ := h 0 (by omega)
  obtain ⟨s1, a1, b1⟩ := h 1 (by omega)
  obtain ⟨s2, a2, b2⟩ := h 2 (by omega)
  obtain ⟨s3, a3, b3⟩ := h 3 (by omega)
  obtain ⟨s4, a4, b4⟩ := h 4 (by omega)
  obtain ⟨s5, a5, b5⟩ := h 5 (by omega)
  obtain ⟨s6, a6, b6⟩ := h 6 (by omega)
  obtain ⟨s7, a7, b7⟩ := h 7 (by omega)
  have a0 : Ceq s0 (.int .u32 x.s) := a0
  have b0 : Ceq s0 (.int .u32 y.s) := b0
  have a1 : Ceq s1 (.str x.r) := a1
  have b1 : Ceq s1 (.str y.r) := b1
  have a2 : Ceq s2 (.int .i64 x.st) := a2
  have b2 : Ceq s2 (.int .i64 y.st) := b2
  have a3 : Ceq s3 (.str x.pan) := a3
  have b3 : Ceq s3 (.str y.pan) := b3
  have a4 : Ceq s4 (.int .u64 x.am) := a4
  have b4 : Ceq s4 (.int .u64 y.am) := b4
  have a5 : Ceq s5 (.str x.code) := a5
  have b5 : Ceq s5 (.str y.code) := b5
  have a6 : Ceq s6 (.int .i64 x.tr) := a6
  have b6 : Ceq s6 (.int .i64 y.tr) := b6
  have a7 : Ceq s7 (.int .i64 x.ca) := a7
  have b7 : Ceq s7 (.int .i64 y.ca) := b7
  rw [Ceq.int] at a0 b0 a2 b2 a4 b4 a6 b6 a7 b7
  rw [Ceq.str] at a1 b1 a3 b3 a5 b5
  subst a0 a1 a2 a3 a4 a5 a6 a7
  cases x
  cases y
  simp at b0 b1 b2 b3 b4 b5 b6 b7
  simp only [Ent.mk.injEq]
  exact ⟨b0, b1, b2, b3, b4, b5, b6, b7⟩
theorem cell_eE (e : Ent) : ∀ j, j < 8 → Ceq (getAt [SV.int .u32 e.s, SV.str e.r, SV.int .i64 e.st, SV.str e.pan, SV.int .u64 e.am, SV.str e.code, SV.int .i64 e.tr, SV.int .i64 e.ca] j) (getAt (eE std fun _ => e) j) := by
  intro j hj
  rcases (show j = 0 ∨ j = 1 ∨ j = 2 ∨ j = 3 ∨ j = 4 ∨ j = 5 ∨ j = 6 ∨ j = 7 by omega) with rfl | rfl | rfl | rfl | rfl | rfl | rfl | rfl <;> exact .refl _
theorem lstOf_V (L : List Ent) : lstOf eE E0 8 L.length (rowF eE { s := 0, r := [], st := 0, pan := [], am := 0, code := [], tr := 0, ca := 0 } std fun _ => L) = L := lstOf_lit inj_eE L
theorem isRow_V (L : List Ent) : isRow eE E0 8 L.length (rowF eE { s := 0, r := [], st := 0, pan := [], am := 0, code := [], tr := 0, ca := 0 } std fun _ => L) := isRow_lit L
/-- Texts that aren't too long. -/
def enS (e : Ent) : Prop := e.pan.length ≤ 100000 ∧ e.code.length ≤ 1000000
def ordE (e f : Ent) : Int := ordK e.s e.r f.s f.r
def ascB : List Ent → Bool
  | [] => true
  | [e] => eR e
  | e :: f :: L => eR e && (decide (ordE e f < 0) && ascB (f :: L))
def ascP (L : List Ent) : Prop := ∀ j, j < L.length → eR (L.getD j E0) = true ∧ (0 < j → ordE (L.getD (j - 1) E0) (L.getD j E0) < 0)
theorem ascB_iff : ∀ (L : List Ent), ascB L = true ↔ ascP L
  | [] => ⟨fun _ j h => absurd h (by simp), fun _ => rfl⟩
  | [e] => by
    constructor
    · intro h j hj
      obtain rfl : j = 0 := by simp at hj; omega
      exact ⟨h, fun h => absurd h (by omega)⟩
    · intro h
      exact (h 0 (by simp)).1
  | e :: f :: L => by
    have ih := ascB_iff (f :: L)
    simp only [ascB, Bool.and_eq_true, decide_eq_true_eq]
    constructor
    · rintro ⟨h1, h2, h3⟩ j hj
      have h4 := ih.1 h3
      cases j with
      | zero => exact ⟨h1, fun h => absurd h (by omega)⟩
      | succ j =>
        have h5 := h4 j (by simpa using hj)
        refine ⟨h5.1, fun _ => ?_⟩
        cases j with
        | zero => exact h2
        | succ j => exact h5.2 (by omega)
    · intro h
      refine ⟨(h 0 (by simp)).1, (h 1 (by simp)).2 (by omega), ih.2 fun j hj => ?_⟩
      have h5 := h (j + 1) (by simpa using hj)
      refine ⟨h5.1, fun h0 => ?_⟩
      have := h5.2 (by omega)
      obtain ⟨i, rfl⟩ : ∃ i, j = i + 1 := ⟨j - 1, by omega⟩
      exact this
theorem w_succ' {a b : Nat} (h : b = a + 1) (hb : a ≤ 1000000000000) : IntKind.i64.wrap ((a : Int) + 1) = (b : Int) := by
  rw [w64 (by omega)]; omega
def shR (L : List Ent) : Bool := decide (L.length ≤ 128) && ascB L
theorem shR_no {L : List Ent} {j : Nat} (hj : j < L.length) (h : eR (L.getD j E0) = false ∨ (0 < j ∧ ¬ordE (L.getD (j - 1) E0) (L.getD j E0) < 0)) : shR L = false := by
  rw [Bool.eq_false_iff]
  intro hs
  simp only [shR, Bool.and_eq_true] at hs
  have h2 := (ascB_iff L).1 hs.2 j hj
  rcases h with h | h
  · rw [h] at h2; exact Bool.noConfusion h2.1
  · exact h.2 (h2.2 h.1)
theorem shR_yes {L : List Ent} (hl : L.length ≤ 128) (h : ascP L) : shR L = true := by
  simp only [shR, Bool.and_eq_true, decide_eq_true_eq]
  exact ⟨hl, (ascB_iff L).2 h⟩
theorem shR_big {L : List Ent} (hl : ¬L.length ≤ 128) : shR L = false := by simp [shR, hl]
attribute [local irreducible] vc
theorem good_shR (L : List Ent) (hL : L.length ≤ 1000000) (hS : ∀ i, enS (L.getD i E0)) : GoodP Tryz.prog gl0 46 [rowS eE E0 8 std fun _ => L] (.bool (std.tb fun _ => shR L)) := by
  refine fn_sound' (T := seatT) (G := gc2) (X := noX) seatT_ok gc2_ok noX_ok noI_ok mixed Tryz.func46 (.one) (fun A => [rowS eE E0 8 A fun _ => L]) (fun A => .bool (A.tb fun _ => shR L)) fun A hA => ?_
  cbv
  repeat' (first | with_reducible exact True.intro | with_reducible exact dr_ok hA (by kernel_rfl) | with_reducible refine And.intro ?_ ?_ | (intro hc; cbv))
  rotate_right
  all_goals first
    | (fail_if_success (refine Exists.intro ?_ ?_)
       subst hA
       simp [std_add, std_sub, std_mul, std_quo, std_rem, std_band, std_bor, std_bxor, std_shl, std_shr, std_eq, std_ne, std_lt, std_le, std_conv, std_not, std_beq, std_bne, std_ite, std_want, std_and2, std_sadd, std_seq, std_sne, std_slt, std_sle, std_sgt, std_sge, std_slen, std_sget, std_scut, std_ofNat, std_toNat, std_nsub, std_nadd, std_lenOf, std_nz, std_nneg, std_inb, std_upto, std_slt63, std_grow, std_imp, std_impN, std_tr, std_tb, std_ti, std_ts, std_tn, std_tp, std_nmin, std_nset, std_fset, std_makes, std_room, std_zeros, std_nilq, std_notq, std_eqi, std_eqn, std_eqb, std_eqs, std_eqv, std_cat, std_lst, std_rset, std_rcopy, std_shift, std_eqr, std_strOf, std_bytesOf, std_isB, std_zOf, zOf_int, std_isI, isI_int, std_getL, std_nmul, std_sOf, sOf_str, std_isS, isS_str, std_fadd, std_fsub, std_fav, std_fsv, std_feq, std_fne, std_flt, std_fle, std_fgt, std_fge, std_fOf, std_fTo, std_fTv] at *
       first | done | (exact shR_big (by omega)))
    | skip
  have hl : L.length ≤ 128 := by subst hA; simp [std_add, std_sub, std_mul, std_quo, std_rem, std_band, std_bor, std_bxor, std_shl, std_shr, std_eq, std_ne, std_lt, std_le, std_conv, std_not, std_beq, std_bne, std_ite, std_want, std_and2, std_sadd, std_seq, std_sne, std_slt, std_sle, std_sgt, std_sge, std_slen, std_sget, std_scut, std_ofNat, std_toNat, std_nsub, std_nadd, std_lenOf, std_nz, std_nneg, std_inb, std_upto, std_slt63, std_grow, std_imp, std_impN, std_tr, std_tb, std_ti, std_ts, std_tn, std_tp, std_nmin, std_nset, std_fset, std_makes, std_room, std_zeros, std_nilq, std_notq, std_eqi, std_eqn, std_eqb, std_eqs, std_eqv, std_cat, std_lst, std_rset, std_rcopy, std_shift, std_eqr, std_strOf, std_bytesOf, std_isB, std_zOf, zOf_int, std_isI, isI_int, std_getL, std_nmul, std_sOf, sOf_str, std_isS, isS_str, std_fadd, std_fsub, std_fav, std_fsv, std_feq, std_fne, std_flt, std_fle, std_fgt, std_fge, std_fOf, std_fTo, std_fTv] at hc; omega
  clear hc
  refine ⟨⟨{i : Nat // i ≤ L.length ∧ ∀ j, j < i → eR (L.getD j E0) = true ∧ (0 < j → ordE (L.getD (j - 1) E0) (L.getD j E0) < 0)}, fun b i => [(3, .int .i64 (i.1 : Nat))], fun b i => [], fun i => L.length - i.1, true⟩, ⟨⟨0, by omega, by simp⟩, ?_⟩, ?_⟩
  · cbv
    subst hA
    simp [-List.getD_eq_getElem?_getD, std_add, std_sub, std_mul, std_quo, std_rem, std_band, std_bor, std_bxor, std_shl, std_shr, std_eq, std_ne, std_lt, std_le, std_conv, std_not, std_beq, std_bne, std_ite, std_want, std_and2, std_sadd, std_seq, std_sne, std_slt, std_sle, std_sgt, std_sge, std_slen, std_sget, std_scut, std_ofNat, std_toNat, std_nsub, std_nadd, std_lenOf, std_nz, std_nneg, std_inb, std_upto, std_slt63, std_grow, std_imp, std_impN, std_tr, std_tb, std_ti, std_ts, std_tn, std_tp, std_nmin, std_nset, std_fset, std_makes, std_room, std_zeros, std_nilq, std_notq, std_eqi, std_eqn, std_eqb, std_eqs, std_eqv, std_cat, std_lst, std_rset, std_rcopy, std_shift, std_eqr, std_strOf, std_bytesOf, std_isB, std_zOf, zOf_int, std_isI, isI_int, std_getL, std_nmul, std_sOf, sOf_str, std_isS, isS_str, std_fadd, std_fsub, std_fav, std_fsv, std_feq, std_fne, std_flt, std_fle, std_fgt, std_fge, std_fOf, std_fTo, std_fTv]
  · rintro ⟨i, hx⟩
    have hi := hx.1
    have hz := hx.2
    have hSi := hS i
    obtain ⟨e, he⟩ : ∃ e, e = L.getD i E0 := ⟨_, rfl⟩
    obtain ⟨q, hq⟩ : ∃ q, q = L.getD (i - 1) E0 := ⟨_, rfl⟩
    have hg : L.getD i { s := 0, r := [], st := 0, pan := [], am := 0, code := [], tr := 0, ca := 0 } = e := he.symm
    have hw : IntKind.i64.wrap ((i : Int) - 1) = (i : Int) - 1 := w64 (by omega)
    have hg2 : L.getD ((i : Int) - 1).toNat { s := 0, r := [], st := 0, pan := [], am := 0, code := [], tr := 0, ca := 0 } = q := by
      rw [hq, show ((i : Int) - 1).toNat = i - 1 by omega]; rfl
    have hg3 : L.getD (i - 1) { s := 0, r := [], st := 0, pan := [], am := 0, code := [], tr := 0, ca := 0 } = q := hq.symm
    have hno := shR_no (L := L) (j := i)
    have hyes := fun h => shR_yes (L := L) hl h
    rw [← he] at hSi hno
    rw [← hq] at hno
    rcases Nat.lt_or_ge i L.length with hlt | hge
    · have hno := hno hlt
      cbv
      repeat' (first | with_reducible exact True.intro | with_reducible exact dr_ok hA (by kernel_rfl) | with_reducible refine And.intro ?_ ?_ | (intro hc; cbv))
      all_goals first
        | (fail_if_success (refine Exists.intro ?_ ?_)
           subst hA
           simp [-List.getD_eq_getElem?_getD, std_add, std_sub, std_mul, std_quo, std_rem, std_band, std_bor, std_bxor, std_shl, std_shr, std_eq, std_ne, std_lt, std_le, std_conv, std_not, std_beq, std_bne, std_ite, std_want, std_and2, std_sadd, std_seq, std_sne, std_slt, std_sle, std_sgt, std_sge, std_slen, std_sget, std_scut, std_ofNat, std_toNat, std_nsub, std_nadd, std_lenOf, std_nz, std_nneg, std_inb, std_upto, std_slt63, std_grow, std_imp, std_impN, std_tr, std_tb, std_ti, std_ts, std_tn, std_tp, std_nmin, std_nset, std_fset, std_makes, std_room, std_zeros, std_nilq, std_notq, std_eqi, std_eqn, std_eqb, std_eqs, std_eqv, std_cat, std_lst, std_rset, std_rcopy, std_shift, std_eqr, std_strOf, std_bytesOf, std_isB, std_zOf, zOf_int, std_isI, isI_int, std_getL, std_nmul, std_sOf, sOf_str, std_isS, isS_str, std_fadd, std_fsub, std_fav, std_fsv, std_feq, std_fne, std_flt, std_fle, std_fgt, std_fge, std_fOf, std_fTo, std_fTv, hg, hg2, hg3, hw] at *
           first
             | done
             | omega
             | exact hSi
             | (intros; omega)
             | (intro h1 h2; exact ⟨⟨h1, h2⟩, (show (1 : Int) ≤ ((i : Nat) : Int) by omega), (show ((i : Nat) : Int) - 1 < ((L.length : Nat) : Int) by omega)⟩)
             | (intro h1 h2; exact ⟨⟨h1, h2⟩, hlt⟩)
             | (intro h1; exact ⟨h1, fun h2 => ⟨h1, h2⟩⟩)
             | exact hno (by rcases hc with h | h; exact .inl h; exact .inr ⟨h.1, by unfold ordE; omega⟩)
             | trace_state)
        | (obtain ⟨i', hi'⟩ : ∃ i', i' = i + 1 := ⟨_, rfl⟩
           have hst : eR e = true ∧ (0 < i → ordE q e < 0) := by
             subst hA
             simp [-List.getD_eq_getElem?_getD, std_add, std_sub, std_mul, std_quo, std_rem, std_band, std_bor, std_bxor, std_shl, std_shr, std_eq, std_ne, std_lt, std_le, std_conv, std_not, std_beq, std_bne, std_ite, std_want, std_and2, std_sadd, std_seq, std_sne, std_slt, std_sle, std_sgt, std_sge, std_slen, std_sget, std_scut, std_ofNat, std_toNat, std_nsub, std_nadd, std_lenOf, std_nz, std_nneg, std_inb, std_upto, std_slt63, std_grow, std_imp, std_impN, std_tr, std_tb, std_ti, std_ts, std_tn, std_tp, std_nmin, std_nset, std_fset, std_makes, std_room, std_zeros, std_nilq, std_notq, std_eqi, std_eqn, std_eqb, std_eqs, std_eqv, std_cat, std_lst, std_rset, std_rcopy, std_shift, std_eqr, std_strOf, std_bytesOf, std_isB, std_zOf, zOf_int, std_isI, isI_int, std_getL, std_nmul, std_sOf, sOf_str, std_isS, isS_str, std_fadd, std_fsub, std_fav, std_fsv, std_feq, std_fne, std_flt, std_fle, std_fgt, std_fge, std_fOf, std_fTo, std_fTv, hg, hg2, hg3, hw] at hc
             exact ⟨hc.1, fun h => by have := hc.2 h; unfold ordE; omega⟩
           refine ⟨⟨i', by omega, fun j hj => ?_⟩, ?_, show L.length - i' < L.length - i by omega⟩
           · rcases Nat.lt_or_ge j i with h | h
             · exact hz j h
             · obtain rfl : j = i := by omega
               rw [← he, ← hq]; exact hst
           · cbv
             subst hA
             simp [-List.getD_eq_getElem?_getD, std_add, std_sub, std_mul, std_quo, std_rem, std_band, std_bor, std_bxor, std_shl, std_shr, std_eq, std_ne, std_lt, std_le, std_conv, std_not, std_beq, std_bne, std_ite, std_want, std_and2, std_sadd, std_seq, std_sne, std_slt, std_sle, std_sgt, std_sge, std_slen, std_sget, std_scut, std_ofNat, std_toNat, std_nsub, std_nadd, std_lenOf, std_nz, std_nneg, std_inb, std_upto, std_slt63, std_grow, std_imp, std_impN, std_tr, std_tb, std_ti, std_ts, std_tn, std_tp, std_nmin, std_nset, std_fset, std_makes, std_room, std_zeros, std_nilq, std_notq, std_eqi, std_eqn, std_eqb, std_eqs, std_eqv, std_cat, std_lst, std_rset, std_rcopy, std_shift, std_eqr, std_strOf, std_bytesOf, std_isB, std_zOf, zOf_int, std_isI, isI_int, std_getL, std_nmul, std_sOf, sOf_str, std_isS, isS_str, std_fadd, std_fsub, std_fav, std_fsv, std_feq, std_fne, std_flt, std_fle, std_fgt, std_fge, std_fOf, std_fTo, std_fTv]
             exact w_succ' hi' (by omega))
        | trace_state
    · have hie : i = L.length := by omega
      have hall : shR L = true := hyes fun j hj => hz j (by omega)
      cbv
      repeat' (first | with_reducible exact True.intro | with_reducible exact dr_ok hA (by kernel_rfl) | with_reducible refine And.intro ?_ ?_ | (intro hc; cbv))
      all_goals first
        | (fail_if_success (refine Exists.intro ?_ ?_)
           clear hz
           subst hA
           simp [-List.getD_eq_getElem?_getD, std_add, std_sub, std_mul, std_quo, std_rem, std_band, std_bor, std_bxor, std_shl, std_shr, std_eq, std_ne, std_lt, std_le, std_conv, std_not, std_beq, std_bne, std_ite, std_want, std_and2, std_sadd, std_seq, std_sne, std_slt, std_sle, std_sgt, std_sge, std_slen, std_sget, std_scut, std_ofNat, std_toNat, std_nsub, std_nadd, std_lenOf, std_nz, std_nneg, std_inb, std_upto, std_slt63, std_grow, std_imp, std_impN, std_tr, std_tb, std_ti, std_ts, std_tn, std_tp, std_nmin, std_nset, std_fset, std_makes, std_room, std_zeros, std_nilq, std_notq, std_eqi, std_eqn, std_eqb, std_eqs, std_eqv, std_cat, std_lst, std_rset, std_rcopy, std_shift, std_eqr, std_strOf, std_bytesOf, std_isB, std_zOf, zOf_int, std_isI, isI_int, std_getL, std_nmul, std_sOf, sOf_str, std_isS, isS_str, std_fadd, std_fsub, std_fav, std_fsv, std_feq, std_fne, std_flt, std_fle, std_fgt, std_fge, std_fOf, std_fTo, std_fTv, hg, hg2, hg3, hw, hall] at *
           first
             | done
             | omega)
        | (exfalso; clear hz; subst hA; simp [-List.getD_eq_getElem?_getD, std_add, std_sub, std_mul, std_quo, std_rem, std_band, std_bor, std_bxor, std_shl, std_shr, std_eq, std_ne, std_lt, std_le, std_conv, std_not, std_beq, std_bne, std_ite, std_want, std_and2, std_sadd, std_seq, std_sne, std_slt, std_sle, std_sgt, std_sge, std_slen, std_sget, std_scut, std_ofNat, std_toNat, std_nsub, std_nadd, std_lenOf, std_nz, std_nneg, std_inb, std_upto, std_slt63, std_grow, std_imp, std_impN, std_tr, std_tb, std_ti, std_ts, std_tn, std_tp, std_nmin, std_nset, std_fset, std_makes, std_room, std_zeros, std_nilq, std_notq, std_eqi, std_eqn, std_eqb, std_eqs, std_eqv, std_cat, std_lst, std_rset, std_rcopy, std_shift, std_eqr, std_strOf, std_bytesOf, std_isB, std_zOf, zOf_int, std_isI, isI_int, std_getL, std_nmul, std_sOf, sOf_str, std_isS, isS_str, std_fadd, std_fsub, std_fav, std_fsv, std_feq, std_fne, std_flt, std_fle, std_fgt, std_fge, std_fOf, std_fTo, std_fTv] at hc; omega)
        | (exfalso; clear hz; subst hA; rename_i q; simp [-List.getD_eq_getElem?_getD, std_add, std_sub, std_mul, std_quo, std_rem, std_band, std_bor, std_bxor, std_shl, std_shr, std_eq, std_ne, std_lt, std_le, std_conv, std_not, std_beq, std_bne, std_ite, std_want, std_and2, std_sadd, std_seq, std_sne, std_slt, std_sle, std_sgt, std_sge, std_slen, std_sget, std_scut, std_ofNat, std_toNat, std_nsub, std_nadd, std_lenOf, std_nz, std_nneg, std_inb, std_upto, std_slt63, std_grow, std_imp, std_impN, std_tr, std_tb, std_ti, std_ts, std_tn, std_tp, std_nmin, std_nset, std_fset, std_makes, std_room, std_zeros, std_nilq, std_notq, std_eqi, std_eqn, std_eqb, std_eqs, std_eqv, std_cat, std_lst, std_rset, std_rcopy, std_shift, std_eqr, std_strOf, std_bytesOf, std_isB, std_zOf, zOf_int, std_isI, isI_int, std_getL, std_nmul, std_sOf, sOf_str, std_isS, isS_str, std_fadd, std_fsub, std_fav, std_fsv, std_feq, std_fne, std_flt, std_fle, std_fgt, std_fge, std_fOf, std_fTo, std_fTv] at q; omega)
        | trace_state
end Go.Vd

set_option linter.unusedVariables false
set_option linter.unusedSimpArgs false
set_option maxRecDepth 100000
set_option maxHeartbeats 8000000
namespace Go.Vd
open Go.Proofs
noncomputable def c_shR : Ct := fun A args => match args with
  | [.slc n 8 f] => some (some (A.tp fun _ => isRow eE E0 8 n f ∧ n ≤ 1000000 ∧ ∀ i, enS ((lstOf eE E0 8 n f).getD i E0)), .bool (A.tb fun _ => shR (lstOf eE E0 8 n f)))
  | _ => none
noncomputable def gs1 : Ar → Pu := addC 46 c_shR (gc2)
theorem gs1_ok : PuOk Tryz.prog gl0 (gs1 std) := by
  refine addC_ok (gc2_ok) ⟨_, Tryz.func46, rfl, by decide⟩ ?_
  · intro args p r h hp
    unfold c_shR at h
    split at h <;> cases h
    exact good_sv (good_shR _ (by rw [lstOf_length hp.1]; exact hp.2.1) hp.2.2) ⟨hp.1.sv, trivial⟩
def kE (s : Int) (r : List UInt8) (e : Ent) : Bool := decide (e.s = s) && decide (e.r = r)
def fnd (L : List Ent) (s : Int) (r : List UInt8) : Ent := (L.find? (kE s r)).getD E0
def has (L : List Ent) (s : Int) (r : List UInt8) : Bool := L.any (kE s r)
def entS (A : Ar) (e : Unit → Ent) : SV := .agg [.int .u32 (A.ti fun _ => (e ()).s), .str (A.ts fun _ => (e ()).r), .int .i64 (A.ti fun _ => (e ()).st), .str (A.ts fun _ => (e ()).pan), .int .u64 (A.ti fun _ => (e ()).am), .str (A.ts fun _ => (e ()).code), .int .i64 (A.ti fun _ => (e ()).tr), .int .i64 (A.ti fun _ => (e ()).ca)]
theorem kE_iff {s : Int} {r : List UInt8} {e : Ent} : kE s r e = true ↔ e.s = s ∧ e.r = r := by simp [kE]
theorem kE_no {s : Int} {r : List UInt8} {e : Ent} (h : ¬(e.s = s ∧ e.r = r)) : kE s r e = false := by
  rw [Bool.eq_false_iff]; intro h'; exact h (kE_iff.1 h')
theorem fnd_yes {L : List Ent} {s : Int} {r : List UInt8} {i : Nat} (hi : i < L.length) (h0 : ∀ j, j < i → kE s r (L.getD j E0) = false) (h : kE s r (L.getD i E0) = true) : fnd L s r = L.getD i E0 ∧ has L s r = true := by
  have hf : L.find? (kE s r) = some (L.getD i E0) := by
    rw [List.find?_eq_some_iff_getElem]
    refine ⟨h, i, hi, by simp [List.getD_eq_getElem?_getD, hi], fun j hj => ?_⟩
    have := h0 j hj
    rw [List.getD_eq_getElem?_getD, List.getElem?_eq_getElem (by omega)] at this
    simpa using this
  constructor
  · unfold fnd; rw [hf]; rfl
  · unfold has
    rw [List.any_eq_true]
    exact ⟨L.getD i E0, by rw [List.getD_eq_getElem?_getD, List.getElem?_eq_getElem hi]; exact List.getElem_mem hi, h⟩
theorem fnd_no {L : List Ent} {s : Int} {r : List UInt8} (h0 : ∀ j, j < L.length → kE s r (L.getD j E0) = false) : fnd L s r = E0 ∧ has L s r = false := by
  have hx : ∀ x ∈ L, ¬kE s r x = true := fun x hx => by
    obtain ⟨j, hj, rfl⟩ := List.getElem_of_mem hx
    have := h0 j hj
    rw [List.getD_eq_getElem?_getD, List.getElem?_eq_getElem hj] at this
    simpa using this
  constructor
  · unfold fnd; rw [List.find?_eq_none.2 hx]; rfl
  · unfold has; rw [List.any_eq_false]; exact hx
attribute [local irreducible] vc
theorem good_shFind (L : List Ent) (s : Int) (r : List UInt8) (hL : L.length ≤ 1000000) : GoodP Tryz.prog gl0 50 [rowS eE E0 8 std fun _ => L, .agg [.int .u32 s, .str r]] (.tup [entS std fun _ => fnd L s r, .bool (std.tb fun _ => has L s r)]) := by
  refine fn_sound' (T := seatT) (G := noC) (X := noX) seatT_ok noC_ok noX_ok noI_ok mixed Tryz.func50 (.one) (fun A => [rowS eE E0 8 A fun _ => L, .agg [.int .u32 s, .str r]]) (fun A => .tup [entS A fun _ => fnd L s r, .bool (A.tb fun _ => has L s r)]) fun A hA => ?_
  cbv
  repeat' (first | with_reducible exact True.intro | with_reducible exact dr_ok hA (by kernel_rfl) | with_reducible refine And.intro ?_ ?_ | (intro hc; cbv))
  refine ⟨⟨{i : Nat // i ≤ L.length ∧ ∀ j, j < i → kE s r (L.getD j E0) = false}, fun b i => [(6, .int .i64 (i.1 : Nat))], fun b i => [], fun i => L.length - i.1, true⟩, ⟨⟨0, by omega, by simp⟩, ?_⟩, ?_⟩
  · cbv
    subst hA
    simp [-List.getD_eq_getElem?_getD, std_add, std_sub, std_mul, std_quo, std_rem, std_band, std_bor, std_bxor, std_shl, std_shr, std_eq, std_ne, std_lt, std_le, std_conv, std_not, std_beq, std_bne, std_ite, std_want, std_and2, std_sadd, std_seq, std_sne, std_slt, std_sle, std_sgt, std_sge, std_slen, std_sget, std_scut, std_ofNat, std_toNat, std_nsub, std_nadd, std_lenOf, std_nz, std_nneg, std_inb, std_upto, std_slt63, std_grow, std_imp, std_impN, std_tr, std_tb, std_ti, std_ts, std_tn, std_tp, std_nmin, std_nset, std_fset, std_makes, std_room, std_zeros, std_nilq, std_notq, std_eqi, std_eqn, std_eqb, std_eqs, std_eqv, std_cat, std_lst, std_rset, std_rcopy, std_shift, std_eqr, std_strOf, std_bytesOf, std_isB, std_zOf, zOf_int, std_isI, isI_int, std_getL, std_nmul, std_sOf, sOf_str, std_isS, isS_str, std_fadd, std_fsub, std_fav, std_fsv, std_feq, std_fne, std_flt, std_fle, std_fgt, std_fge, std_fOf, std_fTo, std_fTv]
  · rintro ⟨i, hx⟩
    have hi := hx.1
    have hz := hx.2
    obtain ⟨e, he⟩ : ∃ e, e = L.getD i E0 := ⟨_, rfl⟩
    have hg : L.getD i { s := 0, r := [], st := 0, pan := [], am := 0, code := [], tr := 0, ca := 0 } = e := he.symm
    rcases Nat.lt_or_ge i L.length with hlt | hge
    · have hyes := fnd_yes (s := s) (r := r) hlt hz
      rw [← he] at hyes
      cbv
      repeat' (first | with_reducible exact True.intro | with_reducible exact dr_ok hA (by kernel_rfl) | with_reducible refine And.intro ?_ ?_ | (intro hc; cbv))
      all_goals first
        | (fail_if_success (refine Exists.intro ?_ ?_)
           clear hz
           subst hA
           simp [-List.getD_eq_getElem?_getD, std_add, std_sub, std_mul, std_quo, std_rem, std_band, std_bor, std_bxor, std_shl, std_shr, std_eq, std_ne, std_lt, std_le, std_conv, std_not, std_beq, std_bne, std_ite, std_want, std_and2, std_sadd, std_seq, std_sne, std_slt, std_sle, std_sgt, std_sge, std_slen, std_sget, std_scut, std_ofNat, std_toNat, std_nsub, std_nadd, std_lenOf, std_nz, std_nneg, std_inb, std_upto, std_slt63, std_grow, std_imp, std_impN, std_tr, std_tb, std_ti, std_ts, std_tn, std_tp, std_nmin, std_nset, std_fset, std_makes, std_room, std_zeros, std_nilq, std_notq, std_eqi, std_eqn, std_eqb, std_eqs, std_eqv, std_cat, std_lst, std_rset, std_rcopy, std_shift, std_eqr, std_strOf, std_bytesOf, std_isB, std_zOf, zOf_int, std_isI, isI_int, std_getL, std_nmul, std_sOf, sOf_str, std_isS, isS_str, std_fadd, std_fsub, std_fav, std_fsv, std_feq, std_fne, std_flt, std_fle, std_fgt, std_fge, std_fOf, std_fTo, std_fTv, hg] at *
           first
             | done
             | omega
             | (rw [(hyes (kE_iff.2 hc)).1]; done)
             | exact (hyes (kE_iff.2 hc)).2
             | trace_state)
        | (obtain ⟨i', hi'⟩ : ∃ i', i' = i + 1 := ⟨_, rfl⟩
           have hst : kE s r e = false := by
             clear hz hyes
             subst hA
             simp [-List.getD_eq_getElem?_getD, std_add, std_sub, std_mul, std_quo, std_rem, std_band, std_bor, std_bxor, std_shl, std_shr, std_eq, std_ne, std_lt, std_le, std_conv, std_not, std_beq, std_bne, std_ite, std_want, std_and2, std_sadd, std_seq, std_sne, std_slt, std_sle, std_sgt, std_sge, std_slen, std_sget, std_scut, std_ofNat, std_toNat, std_nsub, std_nadd, std_lenOf, std_nz, std_nneg, std_inb, std_upto, std_slt63, std_grow, std_imp, std_impN, std_tr, std_tb, std_ti, std_ts, std_tn, std_tp, std_nmin, std_nset, std_fset, std_makes, std_room, std_zeros, std_nilq, std_notq, std_eqi, std_eqn, std_eqb, std_eqs, std_eqv, std_cat, std_lst, std_rset, std_rcopy, std_shift, std_eqr, std_strOf, std_bytesOf, std_isB, std_zOf, zOf_int, std_isI, isI_int, std_getL, std_nmul, std_sOf, sOf_str, std_isS, isS_str, std_fadd, std_fsub, std_fav, std_fsv, std_feq, std_fne, std_flt, std_fle, std_fgt, std_fge, std_fOf, std_fTo, std_fTv, hg] at hc
             exact kE_no fun h => hc h.1 h.2
           refine ⟨⟨i', by omega, fun j hj => ?_⟩, ?_, show L.length - i' < L.length - i by omega⟩
           · rcases Nat.lt_or_ge j i with h | h
             · exact hz j h
             · obtain rfl : j = i := by omega
               rw [← he]; exact hst
           · cbv
             subst hA
             simp [-List.getD_eq_getElem?_getD, std_add, std_sub, std_mul, std_quo, std_rem, std_band, std_bor, std_bxor, std_shl, std_shr, std_eq, std_ne, std_lt, std_le, std_conv, std_not, std_beq, std_bne, std_ite, std_want, std_and2, std_sadd, std_seq, std_sne, std_slt, std_sle, std_sgt, std_sge, std_slen, std_sget, std_scut, std_ofNat, std_toNat, std_nsub, std_nadd, std_lenOf, std_nz, std_nneg, std_inb, std_upto, std_slt63, std_grow, std_imp, std_impN, std_tr, std_tb, std_ti, std_ts, std_tn, std_tp, std_nmin, std_nset, std_fset, std_makes, std_room, std_zeros, std_nilq, std_notq, std_eqi, std_eqn, std_eqb, std_eqs, std_eqv, std_cat, std_lst, std_rset, std_rcopy, std_shift, std_eqr, std_strOf, std_bytesOf, std_isB, std_zOf, zOf_int, std_isI, isI_int, std_getL, std_nmul, std_sOf, sOf_str, std_isS, isS_str, std_fadd, std_fsub, std_fav, std_fsv, std_feq, std_fne, std_flt, std_fle, std_fgt, std_fge, std_fOf, std_fTo, std_fTv]
             exact w_succ' hi' (by omega))
        | trace_state
    · have hie : i = L.length := by omega
      have hall := fnd_no (L := L) (s := s) (r := r) fun j hj => hz j (by omega)
      cbv
      repeat' (first | with_reducible exact True.intro | with_reducible exact dr_ok hA (by kernel_rfl) | with_reducible refine And.intro ?_ ?_ | (intro hc; cbv))
      all_goals first
        | (fail_if_success (refine Exists.intro ?_ ?_)
           clear hz
           subst hA
           simp [-List.getD_eq_getElem?_getD, std_add, std_sub, std_mul, std_quo, std_rem, std_band, std_bor, std_bxor, std_shl, std_shr, std_eq, std_ne, std_lt, std_le, std_conv, std_not, std_beq, std_bne, std_ite, std_want, std_and2, std_sadd, std_seq, std_sne, std_slt, std_sle, std_sgt, std_sge, std_slen, std_sget, std_scut, std_ofNat, std_toNat, std_nsub, std_nadd, std_lenOf, std_nz, std_nneg, std_inb, std_upto, std_slt63, std_grow, std_imp, std_impN, std_tr, std_tb, std_ti, std_ts, std_tn, std_tp, std_nmin, std_nset, std_fset, std_makes, std_room, std_zeros, std_nilq, std_notq, std_eqi, std_eqn, std_eqb, std_eqs, std_eqv, std_cat, std_lst, std_rset, std_rcopy, std_shift, std_eqr, std_strOf, std_bytesOf, std_isB, std_zOf, zOf_int, std_isI, isI_int, std_getL, std_nmul, std_sOf, sOf_str, std_isS, isS_str, std_fadd, std_fsub, std_fav, std_fsv, std_feq, std_fne, std_flt, std_fle, std_fgt, std_fge, std_fOf, std_fTo, std_fTv, hg, hall] at *
           first
             | done
             | omega
             | rfl
             | trace_state)
        | (exfalso; clear hz; subst hA; simp [-List.getD_eq_getElem?_getD, std_add, std_sub, std_mul, std_quo, std_rem, std_band, std_bor, std_bxor, std_shl, std_shr, std_eq, std_ne, std_lt, std_le, std_conv, std_not, std_beq, std_bne, std_ite, std_want, std_and2, std_sadd, std_seq, std_sne, std_slt, std_sle, std_sgt, std_sge, std_slen, std_sget, std_scut, std_ofNat, std_toNat, std_nsub, std_nadd, std_lenOf, std_nz, std_nneg, std_inb, std_upto, std_slt63, std_grow, std_imp, std_impN, std_tr, std_tb, std_ti, std_ts, std_tn, std_tp, std_nmin, std_nset, std_fset, std_makes, std_room, std_zeros, std_nilq, std_notq, std_eqi, std_eqn, std_eqb, std_eqs, std_eqv, std_cat, std_lst, std_rset, std_rcopy, std_shift, std_eqr, std_strOf, std_bytesOf, std_isB, std_zOf, zOf_int, std_isI, isI_int, std_getL, std_nmul, std_sOf, sOf_str, std_isS, isS_str, std_fadd, std_fsub, std_fav, std_fsv, std_feq, std_fne, std_flt, std_fle, std_fgt, std_fge, std_fOf, std_fTo, std_fTv] at hc; omega)
        | (exfalso; clear hz; subst hA; rename_i q; simp [-List.getD_eq_getElem?_getD, std_add, std_sub, std_mul, std_quo, std_rem, std_band, std_bor, std_bxor, std_shl, std_shr, std_eq, std_ne, std_lt, std_le, std_conv, std_not, std_beq, std_bne, std_ite, std_want, std_and2, std_sadd, std_seq, std_sne, std_slt, std_sle, std_sgt, std_sge, std_slen, std_sget, std_scut, std_ofNat, std_toNat, std_nsub, std_nadd, std_lenOf, std_nz, std_nneg, std_inb, std_upto, std_slt63, std_grow, std_imp, std_impN, std_tr, std_tb, std_ti, std_ts, std_tn, std_tp, std_nmin, std_nset, std_fset, std_makes, std_room, std_zeros, std_nilq, std_notq, std_eqi, std_eqn, std_eqb, std_eqs, std_eqv, std_cat, std_lst, std_rset, std_rcopy, std_shift, std_eqr, std_strOf, std_bytesOf, std_isB, std_zOf, zOf_int, std_isI, isI_int, std_getL, std_nmul, std_sOf, sOf_str, std_isS, isS_str, std_fadd, std_fsub, std_fav, std_fsv, std_feq, std_fne, std_flt, std_fle, std_fgt, std_fge, std_fOf, std_fTo, std_fTv] at q; omega)
        | trace_state
noncomputable def c_shFind : Ct := fun A args => match args with
  | [.slc n 8 f, .agg [.int .u32 s, .str r]] => some (some (A.tp fun _ => isRow eE E0 8 n f ∧ n ≤ 1000000), .tup [entS A fun _ => fnd (lstOf eE E0 8 n f) s r, .bool (A.tb fun _ => has (lstOf eE E0 8 n f) s r)])
  | _ => none
noncomputable def gs2 : Ar → Pu := addC 50 c_shFind (gs1)
theorem gs2_ok : PuOk Tryz.prog gl0 (gs2 std) := by
  refine addC_ok (gs1_ok) ⟨_, Tryz.func50, rfl, by decide⟩ ?_
  · intro args p r h hp
    unfold c_shFind at h
    split at h <;> cases h
    exact good_sv (good_shFind _ _ _ (by rw [lstOf_length hp.1]; exact hp.2)) ⟨hp.1.sv, ⟨_, rfl, rfl, rfl, trivial⟩, trivial⟩
/-! ### The place of a key -/
def ltK (s : Int) (r : List UInt8) (e : Ent) : Bool := decide (ordK e.s e.r s r < 0)
def pos (L : List Ent) (s : Int) (r : List UInt8) : Nat := (L.takeWhile (ltK s r)).length
theorem pos_le (L : List Ent) (s : Int) (r : List UInt8) : pos L s r ≤ L.length := by
  unfold pos
  exact (List.takeWhile_prefix _).length_le
theorem pos_eq {L : List Ent} {s : Int} {r : List UInt8} {i : Nat} (hi : i ≤ L.length) (h1 : ∀ j, j < i → ltK s r (L.getD j E0) = true) (h2 : i < L.length → ltK s r (L.getD i E0) = false) : pos L s r = i := by
  unfold pos
  induction L generalizing i with
  | nil => simp at hi; simp [hi]
  | cons e L ih =>
    cases i with
    | zero =>
      have := h2 (by simp)
      simp only [List.getD_cons_zero] at this
      rw [List.takeWhile_cons, if_neg (by rw [this]; simp)]
      rfl
    | succ i =>
      have h0 := h1 0 (by omega)
      simp only [List.getD_cons_zero] at h0
      rw [List.takeWhile_cons, if_pos h0, List.length_cons, ih (by simpa using hi) (fun j hj => by simpa using h1 (j + 1) (by omega)) (fun h => by simpa using h2 (by simpa using h))]
theorem ordK_lt_iff {s t : Int} {r q : List UInt8} : ordK s r t q < 0 ↔ s < t ∨ (s = t ∧ r < q) := by
  rw [ordK_eq]
  by_cases e : s = t ∧ r = q
  · rw [if_pos e]
    obtain ⟨rfl, rfl⟩ := e
    constructor
    · intro h; omega
    · rintro (h | h)
      · omega
      · exact absurd h.2 (List.lt_irrefl _)
  · rw [if_neg e]
    by_cases h : s < t ∨ (s = t ∧ r < q)
    · rw [if_pos h]; simp [h]
    · rw [if_neg h]; simp [h]
theorem ordK_trans {s t u : Int} {r q p : List UInt8} (h1 : ordK s r t q < 0) (h2 : ordK t q u p < 0) : ordK s r u p < 0 := by
  rw [ordK_lt_iff] at *
  rcases h1 with h1 | ⟨rfl, h1⟩
  · rcases h2 with h2 | ⟨rfl, h2⟩
    · exact .inl (by omega)
    · exact .inl h1
  · rcases h2 with h2 | ⟨rfl, h2⟩
    · exact .inl h2
    · exact .inr ⟨rfl, List.lt_trans h1 h2⟩
theorem asc_mono {L : List Ent} (h : ascP L) : ∀ {i j : Nat}, i < j → j < L.length → ordE (L.getD i E0) (L.getD j E0) < 0
  | i, 0, hij, _ => absurd hij (by omega)
  | i, j + 1, hij, hj => by
    have h1 := (h (j + 1) hj).2 (by omega)
    rw [Nat.add_sub_cancel] at h1
    rcases Nat.lt_or_ge i j with h2 | h2
    · exact ordK_trans (asc_mono h h2 (by omega)) h1
    · obtain rfl : i = j := by omega
      exact h1
theorem ltK_mono {L : List Ent} (h : ascP L) {s : Int} {r : List UInt8} {i j : Nat} (hij : i ≤ j) (hj : j < L.length) (hl : ltK s r (L.getD j E0) = true) : ltK s r (L.getD i E0) = true := by
  rcases Nat.lt_or_ge i j with h2 | h2
  · have h3 := asc_mono h h2 hj
    unfold ltK at *
    exact decide_eq_true (ordK_trans h3 (of_decide_eq_true hl))
  · obtain rfl : i = j := by omega
    exact hl
end Go.Vd

set_option linter.unusedVariables false
set_option linter.unusedSimpArgs false
set_option maxRecDepth 100000
set_option maxHeartbeats 8000000
namespace Go.Vd
open Go.Proofs
noncomputable def iS3 : Nat → Option Func := addI 87 Tryz.f87 (addI 88 Tryz.f88 noI)
theorem iS3_ok : InOk Tryz.prog iS3 := addI_ok (addI_ok noI_ok Tryz.func88 (by kernel_rfl)) Tryz.func87 (by kernel_rfl)
def srOk (L : List Ent) (s : Int) (r : List UInt8) (i j : Nat) : Prop := i ≤ j ∧ j ≤ L.length ∧ (∀ t, t < i → ltK s r (L.getD t E0) = true) ∧ ∀ t, j ≤ t → t < L.length → ltK s r (L.getD t E0) = false
theorem mid_eq {i j m : Nat} (hm : m = (i + j) / 2) (hi : i ≤ 1000000000) (hj : j ≤ 1000000000) : std.conv .i64 (std.shr .u64 (std.conv .u64 (std.add .i64 (Int.ofNat i) (Int.ofNat j))) 1) = Int.ofNat m := by
  show IntKind.i64.wrap ((IntKind.u64.wrap (IntKind.i64.wrap ((i : Int) + (j : Int)))).fdiv (2 ^ (min (1 : Int).toNat IntKind.u64.bits))) = (m : Int)
  have e0 : IntKind.i64.wrap ((i : Int) + (j : Int)) = (i : Int) + (j : Int) := w64 (by omega)
  have e1 : IntKind.u64.wrap ((i : Int) + (j : Int)) = (i : Int) + (j : Int) := by rw [IntKind.wrap_u64]; omega
  have e2 : (2 : Int) ^ (min (1 : Int).toNat IntKind.u64.bits) = 2 := by decide
  rw [e0, e1, e2, Int.fdiv_eq_ediv_of_nonneg _ (by decide), w64 (by omega)]
  omega
theorem ltK_self {s : Int} {r : List UInt8} {e : Ent} (h : kE s r e = true) : ltK s r e = false := by
  obtain ⟨h1, h2⟩ := kE_iff.1 h
  unfold ltK
  rw [decide_eq_false]
  rw [ordK_eq, if_pos ⟨h1, h2⟩]
  decide
theorem has_at {L : List Ent} (hasc : ascP L) {s : Int} {r : List UInt8} {i : Nat} (h1 : ∀ t, t < i → ltK s r (L.getD t E0) = true) (h2 : ∀ t, i ≤ t → t < L.length → ltK s r (L.getD t E0) = false) :
    has L s r = true ↔ i < L.length ∧ kE s r (L.getD i E0) = true := by
  constructor
  · intro h
    unfold has at h
    rw [List.any_eq_true] at h
    obtain ⟨x, hx, hk⟩ := h
    obtain ⟨t, ht, rfl⟩ := List.getElem_of_mem hx
    have hgt : L[t] = L.getD t E0 := by simp [List.getD_eq_getElem?_getD, ht]
    rw [hgt] at hk
    have hti : i ≤ t := by
      rcases Nat.lt_or_ge t i with h | h
      · have := h1 t h
        rw [ltK_self hk] at this
        cases this
      · exact h
    rcases Nat.lt_or_ge i t with h | h
    · have h3 := asc_mono hasc h ht
      have h4 := h2 i (Nat.le_refl _) (by omega)
      obtain ⟨k1, k2⟩ := kE_iff.1 hk
      unfold ltK at h4
      unfold ordE at h3
      rw [k1, k2] at h3
      rw [decide_eq_true h3] at h4
      cases h4
    · obtain rfl : t = i := by omega
      exact ⟨ht, hk⟩
  · rintro ⟨h, hk⟩
    unfold has
    rw [List.any_eq_true]
    exact ⟨_, by rw [List.getD_eq_getElem?_getD, List.getElem?_eq_getElem h]; exact List.getElem_mem h, hk⟩
attribute [local irreducible] vc
theorem good_shPlace (L : List Ent) (s : Int) (r : List UInt8) (hL : L.length ≤ 1000000) (hasc : ascP L) : GoodP Tryz.prog gl0 63 [rowS eE E0 8 std fun _ => L, .agg [.int .u32 s, .str r]] (.tup [.int .i64 (std.ti fun _ => (pos L s r : Int)), .bool (std.tb fun _ => has L s r)]) := by
  refine fn_sound' (T := seatT) (G := gs2) (X := noX) seatT_ok gs2_ok noX_ok iS3_ok mixed Tryz.func63 (.one) (fun A => [rowS eE E0 8 A fun _ => L, .agg [.int .u32 s, .str r]]) (fun A => .tup [.int .i64 (A.ti fun _ => (pos L s r : Int)), .bool (A.tb fun _ => has L s r)]) fun A hA => ?_
  cbv
  repeat' (first | with_reducible exact True.intro | with_reducible exact dr_ok hA (by kernel_rfl) | with_reducible refine And.intro ?_ ?_ | (intro hc; cbv))
  obtain ⟨n0, hn0⟩ : ∃ n0, n0 = L.length := ⟨_, rfl⟩
  refine ⟨⟨{p : Nat × Nat // srOk L s r p.1 p.2}, fun b p => [(5, .int .i64 (p.1.1 : Nat)), (6, .int .i64 (p.1.2 : Nat))], fun b p => [], fun p => p.1.2 - p.1.1, true⟩, ⟨⟨(0, n0), by omega, by omega, by simp, fun t h1 h2 => absurd h1 (by omega)⟩, ?_⟩, ?_⟩
  · cbv
    subst hA
    simp [-List.getD_eq_getElem?_getD, std_add, std_sub, std_mul, std_quo, std_rem, std_band, std_bor, std_bxor, std_shl, std_shr, std_eq, std_ne, std_lt, std_le, std_conv, std_not, std_beq, std_bne, std_ite, std_want, std_and2, std_sadd, std_seq, std_sne, std_slt, std_sle, std_sgt, std_sge, std_slen, std_sget, std_scut, std_ofNat, std_toNat, std_nsub, std_nadd, std_lenOf, std_nz, std_nneg, std_inb, std_upto, std_slt63, std_grow, std_imp, std_impN, std_tr, std_tb, std_ti, std_ts, std_tn, std_tp, std_nmin, std_nset, std_fset, std_makes, std_room, std_zeros, std_nilq, std_notq, std_eqi, std_eqn, std_eqb, std_eqs, std_eqv, std_cat, std_lst, std_rset, std_rcopy, std_shift, std_eqr, std_strOf, std_bytesOf, std_isB, std_zOf, zOf_int, std_isI, isI_int, std_getL, std_nmul, std_sOf, sOf_str, std_isS, isS_str, std_fadd, std_fsub, std_fav, std_fsv, std_feq, std_fne, std_flt, std_fle, std_fgt, std_fge, std_fOf, std_fTo, std_fTv, hn0]
  · rintro ⟨⟨i, j⟩, hx⟩
    have hij : i ≤ j := hx.1
    have hjL : j ≤ L.length := hx.2.1
    have h1 : ∀ t, t < i → ltK s r (L.getD t E0) = true := hx.2.2.1
    have h2 : ∀ t, j ≤ t → t < L.length → ltK s r (L.getD t E0) = false := hx.2.2.2
    rcases Nat.lt_or_ge i j with hlt | hge
    · obtain ⟨m, hm⟩ : ∃ m, m = (i + j) / 2 := ⟨_, rfl⟩
      have hmi : i ≤ m := by omega
      have hmj : m < j := by omega
      have hmL : m < L.length := by omega
      obtain ⟨e, he⟩ : ∃ e, e = L.getD m E0 := ⟨_, rfl⟩
      have hg : L.getD m { s := 0, r := [], st := 0, pan := [], am := 0, code := [], tr := 0, ca := 0 } = e := he.symm
      have hyes : ltK s r e = true → srOk L s r (m + 1) j := fun hk => ⟨by omega, hjL, fun t ht => ltK_mono hasc (show t ≤ m by omega) hmL (he ▸ hk), h2⟩
      have hno : ltK s r e = false → srOk L s r i m := fun hk => ⟨hmi, by omega, h1, fun t ht1 ht2 => by
        cases hq : ltK s r (L.getD t E0)
        · rfl
        · have := ltK_mono hasc ht1 ht2 hq
          rw [← he, hk] at this
          cases this⟩
      have hmid := mid_eq hm (by omega) (by omega)
      cbv
      repeat' (first | with_reducible exact True.intro | with_reducible exact dr_ok hA (by kernel_rfl) | with_reducible refine And.intro ?_ ?_ | (intro hc; cbv))
      all_goals first
        | (fail_if_success (refine Exists.intro ?_ ?_)
           clear h1 h2 hyes hno
           subst hA
           simp only [hmid] at *
           simp [-List.getD_eq_getElem?_getD, std_add, std_sub, std_mul, std_quo, std_rem, std_band, std_bor, std_bxor, std_shl, std_shr, std_eq, std_ne, std_lt, std_le, std_conv, std_not, std_beq, std_bne, std_ite, std_want, std_and2, std_sadd, std_seq, std_sne, std_slt, std_sle, std_sgt, std_sge, std_slen, std_sget, std_scut, std_ofNat, std_toNat, std_nsub, std_nadd, std_lenOf, std_nz, std_nneg, std_inb, std_upto, std_slt63, std_grow, std_imp, std_impN, std_tr, std_tb, std_ti, std_ts, std_tn, std_tp, std_nmin, std_nset, std_fset, std_makes, std_room, std_zeros, std_nilq, std_notq, std_eqi, std_eqn, std_eqb, std_eqs, std_eqv, std_cat, std_lst, std_rset, std_rcopy, std_shift, std_eqr, std_strOf, std_bytesOf, std_isB, std_zOf, zOf_int, std_isI, isI_int, std_getL, std_nmul, std_sOf, sOf_str, std_isS, isS_str, std_fadd, std_fsub, std_fav, std_fsv, std_feq, std_fne, std_flt, std_fle, std_fgt, std_fge, std_fOf, std_fTo, std_fTv, hg] at *
           first
             | done
             | exact ⟨(show (0 : Int) ≤ ((m : Nat) : Int) by omega), (show ((m : Nat) : Int) < ((L.length : Nat) : Int) by omega)⟩
             | omega
             | (exfalso; omega)
             | trace_state)
        | (obtain ⟨m', hm'⟩ : ∃ m', m' = m + 1 := ⟨_, rfl⟩
           have hk : ltK s r e = true := by
             clear h1 h2 hyes hno
             subst hA
             simp only [hmid] at hc
             simp [-List.getD_eq_getElem?_getD, std_add, std_sub, std_mul, std_quo, std_rem, std_band, std_bor, std_bxor, std_shl, std_shr, std_eq, std_ne, std_lt, std_le, std_conv, std_not, std_beq, std_bne, std_ite, std_want, std_and2, std_sadd, std_seq, std_sne, std_slt, std_sle, std_sgt, std_sge, std_slen, std_sget, std_scut, std_ofNat, std_toNat, std_nsub, std_nadd, std_lenOf, std_nz, std_nneg, std_inb, std_upto, std_slt63, std_grow, std_imp, std_impN, std_tr, std_tb, std_ti, std_ts, std_tn, std_tp, std_nmin, std_nset, std_fset, std_makes, std_room, std_zeros, std_nilq, std_notq, std_eqi, std_eqn, std_eqb, std_eqs, std_eqv, std_cat, std_lst, std_rset, std_rcopy, std_shift, std_eqr, std_strOf, std_bytesOf, std_isB, std_zOf, zOf_int, std_isI, isI_int, std_getL, std_nmul, std_sOf, sOf_str, std_isS, isS_str, std_fadd, std_fsub, std_fav, std_fsv, std_feq, std_fne, std_flt, std_fle, std_fgt, std_fge, std_fOf, std_fTo, std_fTv, hg] at hc
             exact decide_eq_true hc
           refine ⟨⟨(m', j), by rw [hm']; exact hyes hk⟩, ?_, show j - m' < j - i by omega⟩
           cbv
           subst hA
           simp only [hmid]
           simp [-List.getD_eq_getElem?_getD, std_add, std_sub, std_mul, std_quo, std_rem, std_band, std_bor, std_bxor, std_shl, std_shr, std_eq, std_ne, std_lt, std_le, std_conv, std_not, std_beq, std_bne, std_ite, std_want, std_and2, std_sadd, std_seq, std_sne, std_slt, std_sle, std_sgt, std_sge, std_slen, std_sget, std_scut, std_ofNat, std_toNat, std_nsub, std_nadd, std_lenOf, std_nz, std_nneg, std_inb, std_upto, std_slt63, std_grow, std_imp, std_impN, std_tr, std_tb, std_ti, std_ts, std_tn, std_tp, std_nmin, std_nset, std_fset, std_makes, std_room, std_zeros, std_nilq, std_notq, std_eqi, std_eqn, std_eqb, std_eqs, std_eqv, std_cat, std_lst, std_rset, std_rcopy, std_shift, std_eqr, std_strOf, std_bytesOf, std_isB, std_zOf, zOf_int, std_isI, isI_int, std_getL, std_nmul, std_sOf, sOf_str, std_isS, isS_str, std_fadd, std_fsub, std_fav, std_fsv, std_feq, std_fne, std_flt, std_fle, std_fgt, std_fge, std_fOf, std_fTo, std_fTv]
           exact w_succ' hm' (by omega))
        | (have hk : ltK s r e = false := by
             clear h1 h2 hyes hno
             subst hA
             simp only [hmid] at hc
             simp [-List.getD_eq_getElem?_getD, std_add, std_sub, std_mul, std_quo, std_rem, std_band, std_bor, std_bxor, std_shl, std_shr, std_eq, std_ne, std_lt, std_le, std_conv, std_not, std_beq, std_bne, std_ite, std_want, std_and2, std_sadd, std_seq, std_sne, std_slt, std_sle, std_sgt, std_sge, std_slen, std_sget, std_scut, std_ofNat, std_toNat, std_nsub, std_nadd, std_lenOf, std_nz, std_nneg, std_inb, std_upto, std_slt63, std_grow, std_imp, std_impN, std_tr, std_tb, std_ti, std_ts, std_tn, std_tp, std_nmin, std_nset, std_fset, std_makes, std_room, std_zeros, std_nilq, std_notq, std_eqi, std_eqn, std_eqb, std_eqs, std_eqv, std_cat, std_lst, std_rset, std_rcopy, std_shift, std_eqr, std_strOf, std_bytesOf, std_isB, std_zOf, zOf_int, std_isI, isI_int, std_getL, std_nmul, std_sOf, sOf_str, std_isS, isS_str, std_fadd, std_fsub, std_fav, std_fsv, std_feq, std_fne, std_flt, std_fle, std_fgt, std_fge, std_fOf, std_fTo, std_fTv, hg] at hc
             exact decide_eq_false (by omega)
           refine ⟨⟨(i, m), hno hk⟩, ?_, show m - i < j - i by omega⟩
           cbv
           subst hA
           simp only [hmid]
           simp [-List.getD_eq_getElem?_getD, std_add, std_sub, std_mul, std_quo, std_rem, std_band, std_bor, std_bxor, std_shl, std_shr, std_eq, std_ne, std_lt, std_le, std_conv, std_not, std_beq, std_bne, std_ite, std_want, std_and2, std_sadd, std_seq, std_sne, std_slt, std_sle, std_sgt, std_sge, std_slen, std_sget, std_scut, std_ofNat, std_toNat, std_nsub, std_nadd, std_lenOf, std_nz, std_nneg, std_inb, std_upto, std_slt63, std_grow, std_imp, std_impN, std_tr, std_tb, std_ti, std_ts, std_tn, std_tp, std_nmin, std_nset, std_fset, std_makes, std_room, std_zeros, std_nilq, std_notq, std_eqi, std_eqn, std_eqb, std_eqs, std_eqv, std_cat, std_lst, std_rset, std_rcopy, std_shift, std_eqr, std_strOf, std_bytesOf, std_isB, std_zOf, zOf_int, std_isI, isI_int, std_getL, std_nmul, std_sOf, sOf_str, std_isS, isS_str, std_fadd, std_fsub, std_fav, std_fsv, std_feq, std_fne, std_flt, std_fle, std_fgt, std_fge, std_fOf, std_fTo, std_fTv])
        | trace_state
    · obtain rfl : i = j := by omega
      have hp : pos L s r = i := pos_eq hjL h1 fun h => h2 i (Nat.le_refl _) h
      have hhas := has_at hasc h1 h2
      obtain ⟨e, he⟩ : ∃ e, e = L.getD i E0 := ⟨_, rfl⟩
      have hg : L.getD i { s := 0, r := [], st := 0, pan := [], am := 0, code := [], tr := 0, ca := 0 } = e := he.symm
      rw [← he] at hhas
      rw [kE_iff] at hhas
      cbv
      repeat' (first | with_reducible exact True.intro | with_reducible exact dr_ok hA (by kernel_rfl) | with_reducible refine And.intro ?_ ?_ | (intro hc; cbv))
      all_goals first
        | (exfalso
           clear h1 h2
           subst hA
           first
             | (simp [-List.getD_eq_getElem?_getD, std_add, std_sub, std_mul, std_quo, std_rem, std_band, std_bor, std_bxor, std_shl, std_shr, std_eq, std_ne, std_lt, std_le, std_conv, std_not, std_beq, std_bne, std_ite, std_want, std_and2, std_sadd, std_seq, std_sne, std_slt, std_sle, std_sgt, std_sge, std_slen, std_sget, std_scut, std_ofNat, std_toNat, std_nsub, std_nadd, std_lenOf, std_nz, std_nneg, std_inb, std_upto, std_slt63, std_grow, std_imp, std_impN, std_tr, std_tb, std_ti, std_ts, std_tn, std_tp, std_nmin, std_nset, std_fset, std_makes, std_room, std_zeros, std_nilq, std_notq, std_eqi, std_eqn, std_eqb, std_eqs, std_eqv, std_cat, std_lst, std_rset, std_rcopy, std_shift, std_eqr, std_strOf, std_bytesOf, std_isB, std_zOf, zOf_int, std_isI, isI_int, std_getL, std_nmul, std_sOf, sOf_str, std_isS, isS_str, std_fadd, std_fsub, std_fav, std_fsv, std_feq, std_fne, std_flt, std_fle, std_fgt, std_fge, std_fOf, std_fTo, std_fTv] at hc; done)
             | (rename_i q; simp [-List.getD_eq_getElem?_getD, std_add, std_sub, std_mul, std_quo, std_rem, std_band, std_bor, std_bxor, std_shl, std_shr, std_eq, std_ne, std_lt, std_le, std_conv, std_not, std_beq, std_bne, std_ite, std_want, std_and2, std_sadd, std_seq, std_sne, std_slt, std_sle, std_sgt, std_sge, std_slen, std_sget, std_scut, std_ofNat, std_toNat, std_nsub, std_nadd, std_lenOf, std_nz, std_nneg, std_inb, std_upto, std_slt63, std_grow, std_imp, std_impN, std_tr, std_tb, std_ti, std_ts, std_tn, std_tp, std_nmin, std_nset, std_fset, std_makes, std_room, std_zeros, std_nilq, std_notq, std_eqi, std_eqn, std_eqb, std_eqs, std_eqv, std_cat, std_lst, std_rset, std_rcopy, std_shift, std_eqr, std_strOf, std_bytesOf, std_isB, std_zOf, zOf_int, std_isI, isI_int, std_getL, std_nmul, std_sOf, sOf_str, std_isS, isS_str, std_fadd, std_fsub, std_fav, std_fsv, std_feq, std_fne, std_flt, std_fle, std_fgt, std_fge, std_fOf, std_fTo, std_fTv] at q; done))
        | (clear h1 h2
           subst hA
           simp [-List.getD_eq_getElem?_getD, std_add, std_sub, std_mul, std_quo, std_rem, std_band, std_bor, std_bxor, std_shl, std_shr, std_eq, std_ne, std_lt, std_le, std_conv, std_not, std_beq, std_bne, std_ite, std_want, std_and2, std_sadd, std_seq, std_sne, std_slt, std_sle, std_sgt, std_sge, std_slen, std_sget, std_scut, std_ofNat, std_toNat, std_nsub, std_nadd, std_lenOf, std_nz, std_nneg, std_inb, std_upto, std_slt63, std_grow, std_imp, std_impN, std_tr, std_tb, std_ti, std_ts, std_tn, std_tp, std_nmin, std_nset, std_fset, std_makes, std_room, std_zeros, std_nilq, std_notq, std_eqi, std_eqn, std_eqb, std_eqs, std_eqv, std_cat, std_lst, std_rset, std_rcopy, std_shift, std_eqr, std_strOf, std_bytesOf, std_isB, std_zOf, zOf_int, std_isI, isI_int, std_getL, std_nmul, std_sOf, sOf_str, std_isS, isS_str, std_fadd, std_fsub, std_fav, std_fsv, std_feq, std_fne, std_flt, std_fle, std_fgt, std_fge, std_fOf, std_fTo, std_fTv, hg, hp] at *
           first
             | done
             | omega
             | (intros; omega)
             | (rw [Bool.eq_iff_iff, hhas]; simp; done)
             | (rw [Bool.eq_iff_iff, hhas]; simp; omega)
             | trace_state)
        | trace_state
noncomputable def c_shPlace : Ct := fun A args => match args with
  | [.slc n 8 f, .agg [.int .u32 s, .str r]] => some (some (A.tp fun _ => isRow eE E0 8 n f ∧ n ≤ 1000000 ∧ ascB (lstOf eE E0 8 n f) = true), .tup [.int .i64 (A.ti fun _ => (pos (lstOf eE E0 8 n f) s r : Int)), .bool (A.tb fun _ => has (lstOf eE E0 8 n f) s r)])
  | _ => none
noncomputable def gs3 : Ar → Pu := addC 63 c_shPlace (gs2)
theorem gs3_ok : PuOk Tryz.prog gl0 (gs3 std) := by
  refine addC_ok (gs2_ok) ⟨_, Tryz.func63, rfl, by decide⟩ ?_
  · intro args p r h hp
    unfold c_shPlace at h
    split at h <;> cases h
    exact good_sv (good_shPlace _ _ _ (by rw [lstOf_length hp.1]; exact hp.2.1) ((ascB_iff _).1 hp.2.2)) ⟨hp.1.sv, ⟨_, rfl, rfl, rfl, trivial⟩, trivial⟩
end Go.Vd

set_option linter.unusedVariables false
set_option linter.unusedSimpArgs false
namespace Go.Vd
open Go.RowKit
theorem list_ins {α : Type} (C news : List α) (K N s : Nat) (hK : K ≤ N) (hN : N + s ≤ C.length) (hn : news.length = s) :
    (((C.take (K + s) ++ (C.take N).drop K ++ C.drop (K + s + ((C.take N).drop K).length)).take K ++ news ++ (C.take (K + s) ++ (C.take N).drop K ++ C.drop (K + s + ((C.take N).drop K).length)).drop (K + s))).take (N + s) =
      (C.take N).take K ++ news ++ (C.take N).drop K := by
  have l1 : (C.take (K + s)).length = K + s := by rw [List.length_take]; omega
  have l2 : ((C.take N).drop K).length = N - K := by rw [List.length_drop, List.length_take]; omega
  have e1 : (C.take (K + s) ++ (C.take N).drop K ++ C.drop (K + s + ((C.take N).drop K).length)).take K = C.take K := by
    rw [List.append_assoc, List.take_append, show K - (C.take (K + s)).length = 0 by omega, List.take_zero, List.append_nil, List.take_take, show min K (K + s) = K by omega]
  have e2 : (C.take (K + s) ++ (C.take N).drop K ++ C.drop (K + s + ((C.take N).drop K).length)).drop (K + s) = (C.take N).drop K ++ C.drop (K + s + ((C.take N).drop K).length) := by
    rw [List.append_assoc, List.drop_append, List.drop_of_length_le (by omega), List.nil_append, l1, show K + s - (K + s) = 0 by omega, List.drop_zero]
  rw [e1, e2, ← List.append_assoc, List.take_append]
  have l3 : (C.take K ++ news ++ (C.take N).drop K).length = N + s := by rw [List.length_append, List.length_append, l2, hn, List.length_take]; omega
  rw [l3, List.take_of_length_le (by omega), show N + s - (N + s) = 0 by omega, List.take_zero, List.append_nil, List.take_take, show min K N = K by omega]
theorem list_ins2 {α : Type} (R xs news cs Z : List α) (K N s : Nat) (hK : K ≤ N) (hx : xs.length = N) (hR : R = xs.take K ++ Z) (hRl : N + s ≤ R.length) (hn : news.length = s) (hc : cs = xs.drop K) :
    ((R.take K ++ news ++ R.drop (K + news.length)).take (K + s) ++ cs ++ (R.take K ++ news ++ R.drop (K + news.length)).drop (K + s + cs.length)).take (N + s) = xs.take K ++ news ++ xs.drop K := by
  have l0 : (xs.take K).length = K := by rw [List.length_take]; omega
  have e0 : R.take K = xs.take K := by rw [hR, List.take_append, l0, show K - K = 0 by omega, List.take_zero, List.append_nil, List.take_take, show min K K = K by omega]
  have l1 : (R.take K ++ news).length = K + s := by rw [e0, List.length_append, l0, hn]
  have e1 : (R.take K ++ news ++ R.drop (K + news.length)).take (K + s) = R.take K ++ news := by
    rw [List.take_append, l1, show K + s - (K + s) = 0 by omega, List.take_zero, List.append_nil, List.take_of_length_le (by omega)]
  rw [e1, e0, hc]
  have l2 : (xs.take K ++ news ++ xs.drop K).length = N + s := by rw [List.length_append, List.length_append, l0, hn, List.length_drop]; omega
  rw [List.take_append, l2, show N + s - (N + s) = 0 by omega, List.take_zero, List.append_nil, List.take_of_length_le (by omega)]
/-- A row with one element more. -/
def insS (g : Nat → Nat → SV) (k : Nat) (h : Nat → Nat → SV) : Nat → Nat → SV := fun a b => if a < k then g a b else if a = k then h 0 b else g (a - 1) b
theorem ins_rel {w : World} {rw : Nat → Prop} {s n k : Nat} {xs news : List Value} {g h : Nat → Nat → SV} (hs : 0 < s) (hk : k ≤ n) (hxl : xs.length = n * s) (hnl : news.length = s)
    (hrel : ∀ i j u, i < n → j < s → xs[i * s + j]? = some u → RelC w rw u (g i j)) (hnR : ∀ j u, news[j]? = some u → RelC w rw u (h 0 j)) {i j : Nat} {u : Value} (hi : i < n + 1) (hj : j < s)
    (hu : (xs.take (k * s) ++ news ++ xs.drop (k * s))[i * s + j]? = some u) : RelC w rw u (insS g k h i j) := by
  have hks : k * s ≤ n * s := Nat.mul_le_mul_right s hk
  have l0 : (xs.take (k * s)).length = k * s := by rw [List.length_take]; omega
  unfold insS
  rcases Nat.lt_trichotomy i k with hlt | rfl | hgt
  · rw [if_pos hlt]
    have h1 : (i + 1) * s ≤ k * s := Nat.mul_le_mul_right s hlt
    rw [Nat.add_mul] at h1
    rw [List.append_assoc, List.getElem?_append_left (by omega), List.getElem?_take_of_lt (by omega)] at hu
    exact hrel i j u (by omega) hj hu
  · rw [if_neg (by omega), if_pos rfl]
    rw [List.append_assoc, List.getElem?_append_right (by omega), l0, List.getElem?_append_left (by omega), show i * s + j - i * s = j by omega] at hu
    exact hnR j u hu
  · rw [if_neg (by omega), if_neg (by omega)]
    have h1 : (k + 1) * s ≤ i * s := Nat.mul_le_mul_right s hgt
    have h2 : i * s = (i - 1) * s + s := by rw [← Nat.succ_mul]; congr 1; omega
    rw [Nat.add_mul] at h1
    rw [List.getElem?_append_right (by rw [List.length_append, l0, hnl]; omega), List.length_append, l0, hnl, List.getElem?_drop] at hu
    rw [show k * s + (i * s + j - (k * s + s)) = (i - 1) * s + j by omega] at hu
    exact hrel (i - 1) j u (by omega) hj hu
section
variable {P : Program}
theorem wpList_copyR (w : World) {ops : Array Oper} {rest : List Oper} {o : Oper} {a : Act} {Q : Exit → Act → World → Prop} (hgd : o.guard = none) (d s : Operand) (t t' : TypeId)
    (ho : o.op = .call { callee := .builtin .copy, args := #[d, s], argTypes := #[t, t'] }) (v u : Value) (hd : a.eval d = v) (hs : a.eval s = u) {v' : Value} {w' : World}
    (hr : (Builtin.copy_ #[t, t'] o.type #[v, u]).run P w = .ok v' w') (h : wpList P ops Q rest (a.put o.dst v') w') : wpList P ops Q (o :: rest) a w :=
  wpList_plain hgd fun _ hK => wp_value (by
    simp only [execOp, ho, resolve, invoke, builtin, Sem.run_bind, Sem.run_pure, Result.andThen_ok, List.map_toArray, List.map_cons, List.map_nil, hd, hs, hr]) (hK _ _ h)
theorem wpList_appR (w : World) {ops : Array Oper} {rest : List Oper} {o : Oper} {a : Act} {Q : Exit → Act → World → Prop} (hgd : o.guard = none) (d s : Operand) (t t' : TypeId)
    (ho : o.op = .call { callee := .builtin .append, args := #[d, s], argTypes := #[t, t'] }) (v u : Value) (hd : a.eval d = v) (hs : a.eval s = u) {v' : Value} {w' : World}
    (hr : (Builtin.append_ #[t, t'] o.type #[v, u]).run P w = .ok v' w') (h : wpList P ops Q rest (a.put o.dst v') w') : wpList P ops Q (o :: rest) a w :=
  wpList_plain hgd fun _ hK => wp_value (by
    simp only [execOp, ho, resolve, invoke, builtin, Sem.run_bind, Sem.run_pure, Result.andThen_ok, List.map_toArray, List.map_cons, List.map_nil, hd, hs, hr]) (hK _ _ h)
theorem step_copyR {ops : Array Oper} {o : Oper} {a : Act} {w : World} {K : Act → World → Prop} {Q : Exit → Act → World → Prop} {E : Prop}
    (hg : o.guard = none) (d x : Operand) (dT sT : TypeId) (hop : o.op = Op.call { callee := Callee.builtin Builtin.copy, args := #[d, x], argTypes := #[dT, sT] })
    (v u : Value) (hd : a.eval d = v) (hx : a.eval x = u) {v' : Value} {w' : World} (hr : (Builtin.copy_ #[dT, sT] o.type #[v, u]).run P w = .ok v' w') (hK : K (a.put o.dst v') w') :
    if Region.wanted o (yielded ops a.tmps) = true then Oper.wp P o a w K Q else E := by
  have hw : Region.wanted o (yielded ops a.tmps) = true := by simp [Region.wanted, hg]
  rw [if_pos hw]
  exact wp_value (by simp only [execOp, hop, resolve, invoke, builtin, Sem.run_bind, Sem.run_pure, Result.andThen_ok, List.map_toArray, List.map_cons, List.map_nil, hd, hx, hr]) hK
theorem two_slices {a b : Option Addr} {la ca lb cb : Nat} (f : (a : Option Addr) → (la ca : Nat) → (b : Option Addr) → (lb cb : Nat) → Sem Value) (g : Array Value → Sem Value) :
    Extern.SlicesOverlaps.overlaps.match_4 (fun _ => Sem Value) #[.slice a la ca, .slice b lb cb] f g = f a la ca b lb cb := rfl
/-- Is a plain block beside another one: they are never one. -/
theorem apart_plain (w : World) (tS tR e : TypeId) (ht : P.underlying tS = some (.slice e)) (size : Nat) (hz : ∀ w, (Go.sizeOf e).run P w = .ok size w)
    (a b : Addr) (la ca lb cb : Nat) (hne : a.block ≠ b.block) {ca0 cb0 : Array Value} {ta tb : TypeId} {ma : Nat × Nat} (hA : w.heap[a.block]? = some (.cells ca0 ta ma)) (hA0 : 0 < ca0.size) (hB : w.heap[b.block]? = some (.cells cb0 tb (0, 0))) :
    (Extern.SlicesOverlaps.overlaps #[tS, tS] #[tR] #[.slice (some a) la ca, .slice (some b) lb cb]).run P w = .ok (.bool false) w := by
  have hnb : (a.block != b.block) = true := by simpa using hne
  have hnb' : (a.block == b.block) = false := by simpa using hne
  have hsa : w.shape? a.block = some (ta, ca0.size) := by unfold World.shape?; rw [hA]
  have hsb : w.shape? b.block = some (tb, cb0.size) := by unfold World.shape?; rw [hB]
  have hfb : ∀ x, w.frozen? ⟨b.block, x, none⟩ = false := fun x => by unfold World.frozen?; simp only [hB]; simp
  have hfb' : w.frozen? b = false := by unfold World.frozen?; simp only [hB]; simp
  obtain ⟨q, hq⟩ : ∃ q, ca0.size = q + 1 := ⟨ca0.size - 1, by omega⟩
  rw [hq] at hsa
  unfold Extern.SlicesOverlaps.overlaps
  rw [two_slices]
  by_cases h0 : la = 0 ∨ lb = 0 ∨ size = 0
  · simp [run_underlying ht, hz, h0]
  · cases hfa : w.frozen? a <;> cases hfe : w.frozen? { block := a.block, off := q + 1 } <;>
      simp [run_underlying ht, hz, h0, hnb, hnb', frozen, noView, viewAt, mayBeOne, stringish, shape, Sem.run, hsa, hsb, hfa, hfe, hfb, hfb']
end
end Go.Vd

