/- The bitmap's rows: numbers read, fields. -/
import Derived.Test.YthebeokidnlnbaaVdBm1
set_option linter.unusedVariables false
set_option linter.unusedSimpArgs false
set_option maxRecDepth 100000
set_option maxHeartbeats 1000000
namespace Go.Vd
open Go.Proofs
/-- The number of the first bytes. -/
def numTo (L : List UInt8) (k : Nat) : Nat := (L.take k).foldl (fun a b => a * 256 + b.toNat) 0
theorem numTo_succ (L : List UInt8) (k : Nat) (h : k < L.length) : numTo L (k + 1) = numTo L k * 256 + (L.getD k 0).toNat := by
  unfold numTo
  rw [List.take_succ_eq_append_getElem h, List.foldl_append]
  simp [List.getD_eq_getElem?_getD, h]
theorem numTo_lt (L : List UInt8) : ∀ k, k ≤ L.length → numTo L k < 256 ^ k
  | 0, _ => by simp [numTo]
  | k + 1, h => by
    have h1 := numTo_lt L k (by omega)
    rw [numTo_succ L k (by omega), Nat.pow_succ]
    have := UInt8.toNat_lt (L.getD k 0)
    omega
theorem shl_or (a b : Nat) (hb : b < 256) : a * 256 ||| b = a * 256 + b := by
  have := Nat.shiftLeft_add_eq_or_of_lt (b := b) (i := 8) hb a
  rw [Nat.shiftLeft_eq] at this
  exact this.symm
def r31 (A : Ar) (L : Unit → List UInt8) : SV := .int .u64 (A.ti fun _ => numTo (L ()) 8)
theorem good31 (L : List UInt8) (hn : 8 ≤ L.length) : GoodP Try.prog gl0 31 [bsS std fun _ => L] (r31 std fun _ => L) := by
  refine fn_sound' (T := seatT) (G := noC) (X := noX) seatT_ok noC_ok noX_ok noI_ok mixed Try.func31 .one (fun A => [bsS A fun _ => L]) (fun A => r31 A fun _ => L) fun A hA => ?_
  cbv
  refine ⟨⟨{k : Nat // k ≤ 8}, fun _ k => [(3, .int .u64 (A.ti fun _ => numTo L k.1)), (5, .int .i64 (k.1 : Nat))], fun _ _ => [], fun k => 8 - k.1, true⟩, ⟨⟨0, by omega⟩, ?_⟩, ?_⟩
  · cbv
    subst hA
    simp [std, numTo]
  · rintro ⟨k, hk⟩
    cbv
    repeat' (first | with_reducible exact dr_ok hA (by kernel_rfl) | with_reducible refine And.intro ?_ ?_ | (intro hc; cbv))
    · subst hA; simp [std]
    · subst hA; simp [std] at hc ⊢; omega
    · have hlt : k < 8 := by subst hA; simp [std] at hc; omega
      refine ⟨⟨k + 1, by omega⟩, ?_, show 8 - (k + 1) < 8 - k by omega⟩
      cbv
      repeat' (first | with_reducible exact dr_ok hA (by kernel_rfl) | with_reducible refine And.intro ?_ ?_)
      all_goals (subst hA; simp [std])
      · have h1 := numTo_lt L k (by omega)
        have h3 : 256 ^ k * 256 ≤ 256 ^ 8 := by rw [← Nat.pow_succ]; exact Nat.pow_le_pow_right (by decide) hlt
        have hs := numTo_succ L k (by omega)
        rw [List.getD_eq_getElem?_getD] at hs
        have hb := UInt8.toNat_lt (L[k]?.getD 0)
        generalize (L[k]?.getD 0).toNat = b at hs hb
        rw [show min 8 IntKind.u64.bits = 8 from rfl, wu64 (n := (b : Int)) ⟨by omega, by omega⟩]
        have e1 : IntKind.u64.wrap ((numTo L k : Int) * 2 ^ 8) = ((numTo L k * 256 : Nat) : Int) := by
          rw [wu64 ⟨by omega, by omega⟩]; simp
        rw [e1, bits_or_u64_nat _ _ (by omega) (by omega), shl_or _ _ (by omega), hs]
      · rw [w64 (by omega)]
    · have : k = 8 := by subst hA; simp [std] at hc; omega
      subst hA this
      simp [std]

/-! ### Fields -/
def bfieldsTo (h l n : Nat) : List Int := ((List.range' 2 (n - 2)).map Int.ofNat).filter (bhas h l)
theorem bfieldsTo_succ (h l n : Nat) (hn : 2 ≤ n) : bfieldsTo h l (n + 1) = if bhas h l n then bfieldsTo h l n ++ [(n : Int)] else bfieldsTo h l n := by
  unfold bfieldsTo
  rw [show n + 1 - 2 = (n - 2) + 1 by omega, List.range'_concat, List.map_append, List.filter_append]
  simp only [List.map_cons, List.map_nil, Nat.one_mul, List.filter_cons, List.filter_nil]
  rw [show 2 + (n - 2) = n by omega]
  cases hb : bhas h l n <;> simp [hb]
theorem bfieldsTo_len (h l n : Nat) : (bfieldsTo h l n).length ≤ n := by
  unfold bfieldsTo
  refine Nat.le_trans (List.length_filter_le _ _) ?_
  simp
def bfields (h l : Nat) : List Int := bfieldsTo h l 129
def r16 (A : Ar) (h l : Int) : SV := zsS A fun _ => bfields h.toNat l.toNat
theorem good16 {h l : Int} (hh : r64 h) (hl : r64 l) : GoodP Try.prog gl0 16 [.agg [.int .u64 h, .int .u64 l]] (r16 std h l) := by
  obtain ⟨h, rfl, lh⟩ := r64_nat hh
  obtain ⟨l, rfl, ll⟩ := r64_nat hl
  refine fn_sound' (T := seatT) (G := g2) (X := noX) seatT_ok g2_ok noX_ok noI_ok mixed Try.func16 .none (fun A => [.agg [.int .u64 h, .int .u64 l]]) (fun A => r16 A h l) fun A hA => ?_
  cbv
  refine ⟨⟨{n : Nat // 2 ≤ n ∧ n ≤ 129}, fun b n => [(3, .own b), (4, .int .i64 (n.1 : Nat))], fun b n => [(b, .row 3 1 (A.tn fun _ => (bfieldsTo h l n.1).length) (zsF A fun _ => bfieldsTo h l n.1))], fun n => 129 - n.1, true⟩, ⟨⟨2, by omega⟩, ?_⟩, ?_⟩
  · cbv
    subst hA
    simp [std, bfieldsTo]
  · rintro ⟨n, hn1, hn2⟩
    cbv
    repeat' (first | with_reducible exact dr_ok hA (by kernel_rfl) | with_reducible refine And.intro ?_ ?_ | (intro hc; cbv))
    · have : n = 129 := by subst hA; simp [std] at hc; omega
      subst hA this
      simp [std, bfields]
    · have : n = 129 := by subst hA; simp [std] at hc; omega
      subst hA this
      simp [std, bfields, zsF]
    · have : n = 129 := by subst hA; simp [std] at hc; omega
      subst hA this
      simp [std, bfields, zsF]
    · subst hA; exact ⟨hh, hl⟩
    · have := bfieldsTo_len h l n
      subst hA
      simp [std]; omega
    · rename_i hc1
      have hlt : n < 129 := by subst hA; simp [std] at hc1; omega
      have hb : bhas h l n = true := by subst hA; simpa [std] using hc
      refine ⟨⟨n + 1, by omega, by omega⟩, ?_, show 129 - (n + 1) < 129 - n by omega⟩
      have hs := bfieldsTo_succ h l n hn1
      rw [hb, if_pos rfl] at hs
      cbv
      repeat' (first | with_reducible exact dr_ok hA (by kernel_rfl) | with_reducible refine And.intro ?_ ?_)
      all_goals (subst hA; simp [std, zsF, hs])
      · rw [w64 (by omega)]
      · exact snoc_z _ _
    · rename_i hc1
      have hlt : n < 129 := by subst hA; simp [std] at hc1; omega
      have hb : bhas h l n = false := by subst hA; simpa [std] using hc
      refine ⟨⟨n + 1, by omega, by omega⟩, ?_, show 129 - (n + 1) < 129 - n by omega⟩
      have hs := bfieldsTo_succ h l n hn1
      rw [hb, if_neg (by simp)] at hs
      cbv
      repeat' (first | with_reducible exact dr_ok hA (by kernel_rfl) | with_reducible refine And.intro ?_ ?_)
      all_goals (subst hA; simp [std, zsF, hs])
      · rw [w64 (by omega)]

/-! ### Of -/
/-- The bitmap of fields, or none. -/
def bofS (L : List Int) : Option (Nat × Nat) := L.foldl (fun o n => o.bind fun m => if bright m.1 m.2 && bfield n then some (bput m.1 m.2 n) else none) (some (0, 0))
def bof (L : List Int) : Nat × Nat := (bofS L).getD (0, 0)
def boferr (L : List Int) : Int := if (bofS L).isSome then 0 else 1
theorem bofS_none (f : Nat × Nat → Int → Option (Nat × Nat)) : ∀ L : List Int, L.foldl (fun o n => o.bind fun m => f m n) none = none
  | [] => rfl
  | _ :: L => by simpa using bofS_none f L
def bofTo (L : List Int) (k : Nat) : Option (Nat × Nat) := bofS (L.take k)
theorem bofTo_succ (L : List Int) (k : Nat) (h : k < L.length) : bofTo L (k + 1) = (bofTo L k).bind fun m => if bright m.1 m.2 && bfield (L.getD k 0) then some (bput m.1 m.2 (L.getD k 0)) else none := by
  unfold bofTo bofS
  rw [List.take_succ_eq_append_getElem h, List.foldl_append]
  simp [List.getD_eq_getElem?_getD, h]
theorem bofTo_stop (L : List Int) : ∀ k j, k ≤ j → bofTo L k = none → bofTo L j = none := by
  intro k j hkj hk
  obtain ⟨d, rfl⟩ := Nat.le.dest hkj
  unfold bofTo bofS at *
  rw [List.take_add, List.foldl_append, hk]
  exact bofS_none (fun m n => if bright m.1 m.2 && bfield n then some (bput m.1 m.2 n) else none) _
theorem bofTo_all (L : List Int) : bofTo L L.length = bofS L := by unfold bofTo; rw [List.take_length]
def r9 (A : Ar) (L : Unit → List Int) : SV := .tup [.agg [.int .u64 (A.ti fun _ => (bof (L ())).1), .int .u64 (A.ti fun _ => (bof (L ())).2)], .int .i64 (A.ti fun _ => boferr (L ()))]
theorem good9 (L : List Int) (hL : L.length ≤ 9223372036854775807) : GoodP Try.prog gl0 9 [zsS std fun _ => L] (r9 std fun _ => L) := by
  refine fn_sound' (T := seatT) (G := g3) (X := noX) seatT_ok g3_ok noX_ok noI_ok mixed Try.func9 .one (fun A => [zsS A fun _ => L]) (fun A => r9 A fun _ => L) fun A hA => ?_
  cbv
  refine ⟨⟨{p : Nat × Nat × Nat // p.1 ≤ L.length ∧ bofTo L p.1 = some p.2}, fun _ p => [(5, .int .i64 (p.1.1 : Nat))], fun _ p => [(2, .box 24 [.int .u64 (p.1.2.1 : Nat), .int .u64 (p.1.2.2 : Nat)])], fun p => L.length - p.1.1, true⟩, ⟨⟨(0, 0, 0), by omega, rfl⟩, ?_⟩, ?_⟩
  · cbv
    subst hA
    simp [std, zsF]
  · rintro ⟨⟨k, h, l⟩, hk, hm⟩
    simp only at hk hm
    cbv
    have hb : (k : Nat) < L.length → (berr h l (L.getD k 0) = 0 ↔ bofTo L (k + 1) = some (bput h l (L.getD k 0))) ∧ (berr h l (L.getD k 0) ≠ 0 → berr h l (L.getD k 0) = 1 ∧ bofTo L (k + 1) = none) := by
      intro hlt
      have hs := bofTo_succ L k hlt
      rw [hm] at hs
      simp only [Option.bind_some] at hs
      unfold berr
      cases hq : (bright h l && bfield (L.getD k 0))
      · rw [hq] at hs; simp [hs]
      · rw [hq] at hs; simp [hs]
    have hr : r64 (h : Nat) ∧ r64 (l : Nat) := by
      have : ∀ k m, bofTo L k = some m → k ≤ L.length → m.1 < 18446744073709551616 ∧ m.2 < 18446744073709551616 := by
        intro k
        induction k with
        | zero => intro m hm _; simp [bofTo, bofS] at hm; subst hm; decide
        | succ k ih =>
          intro m hm hk
          rw [bofTo_succ L k (by omega)] at hm
          cases hq : bofTo L k with
          | none => rw [hq] at hm; cases hm
          | some m' =>
            rw [hq] at hm
            simp only [Option.bind_some] at hm
            split at hm
            · cases hm
              have := ih m' hq (by omega)
              exact bput_lt _ this.1 this.2
            · cases hm
      have := this k _ hm hk
      exact ⟨r64_of this.1, r64_of this.2⟩
    repeat' (first | with_reducible exact True.intro | with_reducible exact dr_ok hA (by kernel_rfl) | with_reducible refine And.intro ?_ ?_ | (intro hc; cbv))
    · have : k = L.length := by subst hA; simp [std] at hc; omega
      subst this
      rw [bofTo_all] at hm
      subst hA; simp [std, bof, hm]
    · have : k = L.length := by subst hA; simp [std] at hc; omega
      subst this
      rw [bofTo_all] at hm
      subst hA; simp [std, bof, hm]
    · have : k = L.length := by subst hA; simp [std] at hc; omega
      subst this
      rw [bofTo_all] at hm
      subst hA; simp [std, boferr, hm]
    · subst hA; simp [std] at hc ⊢; omega
    · subst hA; exact hr
    · rename_i hc1
      have hlt : k < L.length := by subst hA; simp [std] at hc1; omega
      have h2 : berr h l (L.getD k 0) ≠ 0 := by subst hA; simp [std] at hc ⊢; exact hc
      have h3 := bofTo_stop L (k + 1) L.length hlt ((hb hlt).2 h2).2
      rw [bofTo_all] at h3
      subst hA; simp [std, bof, h3]
    · rename_i hc1
      have hlt : k < L.length := by subst hA; simp [std] at hc1; omega
      have h2 : berr h l (L.getD k 0) ≠ 0 := by subst hA; simp [std] at hc ⊢; exact hc
      have h3 := bofTo_stop L (k + 1) L.length hlt ((hb hlt).2 h2).2
      rw [bofTo_all] at h3
      subst hA; simp [std, bof, h3]
    · rename_i hc1
      have hlt : k < L.length := by subst hA; simp [std] at hc1; omega
      have h2 : berr h l (L.getD k 0) ≠ 0 := by subst hA; simp [std] at hc ⊢; exact hc
      have h3 := bofTo_stop L (k + 1) L.length hlt ((hb hlt).2 h2).2
      rw [bofTo_all] at h3
      have h4 := ((hb hlt).2 h2).1
      subst hA; simp [std, boferr, h3] at h4 ⊢; exact h4
    · rename_i hc1
      have hlt : k < L.length := by subst hA; simp [std] at hc1; omega
      have h2 : berr h l (L.getD k 0) = 0 := by subst hA; simp [std] at hc ⊢; exact hc
      have hx := (hb hlt).1.1 h2
      clear hb
      obtain ⟨b, hbq⟩ : ∃ b, b = bput h l (L.getD k 0) := ⟨_, rfl⟩
      have hx' : k + 1 ≤ L.length ∧ bofTo L (k + 1) = some b := ⟨hlt, by rw [hbq]; exact hx⟩
      refine ⟨⟨(k + 1, b), hx'⟩, ?_, ?_⟩
      rotate_left
      · show L.length - (k + 1) < L.length - k
        omega
      cbv
      repeat' (first | with_reducible exact True.intro | with_reducible exact dr_ok hA (by kernel_rfl) | with_reducible refine And.intro ?_ ?_)
      all_goals (subst hA; simp [std, zsF])
      · rw [w64 (by omega)]
      · rw [hbq, List.getD_eq_getElem?_getD]
      · rw [hbq, List.getD_eq_getElem?_getD]
def c31 : Ct := fun A args => match args with
  | [.slc n 1 f] => some (some (A.tp fun _ => isBs n f ∧ 8 ≤ n), r31 A fun _ => bsL n f)
  | _ => none
def c16 : Ct := fun A args => match args with
  | [.agg [.int .u64 h, .int .u64 l]] => some (some (A.tp fun _ => r64 h ∧ r64 l), r16 A h l)
  | _ => none
def c9 : Ct := fun A args => match args with
  | [.slc n 1 f] => some (some (A.tp fun _ => isZs n f ∧ n ≤ 9223372036854775807), r9 A fun _ => zsL n f)
  | _ => none
def g4 : Ar → Pu := addC 31 c31 (addC 16 c16 (addC 9 c9 g3))
theorem g4_ok : PuOk Try.prog gl0 (g4 std) := by
  refine addC_ok (addC_ok (addC_ok g3_ok ⟨_, Try.func9, rfl, by decide⟩ ?_) ⟨_, Try.func16, rfl, by decide⟩ ?_) ⟨_, Try.func31, rfl, by decide⟩ ?_
  · intro args p r h hp
    unfold c9 at h
    split at h <;> cases h
    exact good_sv (good9 _ (by rw [zsL_length]; exact hp.2)) ⟨zs_sv hp.1, trivial⟩
  · intro args p r h hp
    unfold c16 at h
    split at h <;> cases h
    exact good16 hp.1 hp.2
  · intro args p r h hp
    unfold c31 at h
    split at h <;> cases h
    exact good_sv (good31 _ (by rw [bsL_length]; exact hp.2)) ⟨bs_sv hp.1, trivial⟩
end Go.Vd
