/- Frames, as lists of bytes say them. -/
import Derived.Test.YtakcggldilbilaaDoorVdSimp
import Derived.Test.YtakcggldilbilaaDoorVdBy
set_option linter.unusedVariables false
namespace Go.Vd
/-- The length that two bytes say. -/
def fLen (L : List UInt8) : Nat := 256 * (L.getD 0 0).toNat + (L.getD 1 0).toNat
theorem fLen_lt (L : List UInt8) : fLen L < 65536 := by
  have h1 := (L.getD 0 0).toNat_lt
  have h2 := (L.getD 1 0).toNat_lt
  unfold fLen
  omega
def fMay (n : Int) : Bool := decide (1 ≤ n) && decide (n ≤ 2048)
def fOk (L : List UInt8) (br : Bool) : Bool := if br then decide (L.length = 0) else if L.length < 2 then true else fMay (fLen L) && decide (L.length < 2 + fLen L)
theorem fMay_iff {n : Nat} : fMay n = true ↔ 1 ≤ n ∧ n ≤ 2048 := by simp [fMay]; omega
theorem getD_app {L M : List UInt8} {i : Nat} (h : i < L.length) : (L ++ M).getD i 0 = L.getD i 0 := by
  rw [List.getD_eq_getElem?_getD, List.getD_eq_getElem?_getD, List.getElem?_append_left h]
theorem fLen_app {L M : List UInt8} (h : 2 ≤ L.length) : fLen (L ++ M) = fLen L := by
  unfold fLen
  rw [getD_app (by omega), getD_app (by omega)]

/-- What bytes are: frames, what is left, and whether a length may not be. -/
def fParse (L : List UInt8) : List (List UInt8) × List UInt8 × Bool :=
  if L.length < 2 then ([], L, false)
  else if fMay (fLen L) = false then ([], [], true)
  else if L.length < 2 + fLen L then ([], L, false)
  else
    let r := fParse (L.drop (2 + fLen L))
    ((L.drop 2).take (fLen L) :: r.1, r.2)
termination_by L.length
decreasing_by rw [List.length_drop]; omega
theorem fParse_short {L : List UInt8} (h : L.length < 2) : fParse L = ([], L, false) := by
  rw [fParse, if_pos h]
theorem fParse_bad {L : List UInt8} (h : ¬L.length < 2) (h1 : fMay (fLen L) = false) : fParse L = ([], [], true) := by
  rw [fParse, if_neg h, if_pos h1]
theorem fParse_part {L : List UInt8} (h : ¬L.length < 2) (h1 : fMay (fLen L) = true) (h2 : L.length < 2 + fLen L) : fParse L = ([], L, false) := by
  rw [fParse, if_neg h, if_neg (by simp [h1]), if_pos h2]
theorem fParse_more {L : List UInt8} (h : ¬L.length < 2) (h1 : fMay (fLen L) = true) (h2 : ¬L.length < 2 + fLen L) : fParse L = ((L.drop 2).take (fLen L) :: (fParse (L.drop (2 + fLen L))).1, (fParse (L.drop (2 + fLen L))).2) := by
  rw [fParse, if_neg h, if_neg (by simp [h1]), if_neg h2]
theorem fParse_fix {R : List UInt8} (h : fOk R false = true) : fParse R = ([], R, false) := by
  by_cases h0 : R.length < 2
  · exact fParse_short h0
  · simp [fOk, h0] at h
    exact fParse_part h0 h.1 (by omega)
theorem fParse_ok (n : Nat) : ∀ L : List UInt8, L.length = n → fOk (fParse L).2.1 (fParse L).2.2 = true ∧ (fParse L).2.1.length ≤ L.length := by
  induction n using Nat.strongRecOn with
  | _ n ih =>
    intro L hL
    by_cases h0 : L.length < 2
    · rw [fParse_short h0]; simp [fOk, h0]
    · cases h1 : fMay (fLen L) with
      | false => rw [fParse_bad h0 h1]; simp [fOk]
      | true =>
        by_cases h2 : L.length < 2 + fLen L
        · rw [fParse_part h0 h1 h2]; simp [fOk, h0, h1]; omega
        · rw [fParse_more h0 h1 h2]
          have h := ih (L.drop (2 + fLen L)).length (by rw [List.length_drop]; omega) _ rfl
          refine ⟨h.1, Nat.le_trans h.2 (by rw [List.length_drop]; omega)⟩
theorem fParse_right (L : List UInt8) : fOk (fParse L).2.1 (fParse L).2.2 = true := (fParse_ok _ L rfl).1
theorem fParse_app (n : Nat) : ∀ L M : List UInt8, L.length = n → fParse (L ++ M) = if (fParse L).2.2 then ((fParse L).1, [], true) else ((fParse L).1 ++ (fParse ((fParse L).2.1 ++ M)).1, (fParse ((fParse L).2.1 ++ M)).2) := by
  induction n using Nat.strongRecOn with
  | _ n ih =>
    intro L M hL
    by_cases h0 : L.length < 2
    · rw [fParse_short h0]; simp
    · have hl : ¬(L ++ M).length < 2 := by rw [List.length_append]; omega
      have hf : fLen (L ++ M) = fLen L := fLen_app (by omega)
      cases h1 : fMay (fLen L) with
      | false => rw [fParse_bad h0 h1, fParse_bad hl (by rw [hf]; exact h1)]; simp
      | true =>
        by_cases h2 : L.length < 2 + fLen L
        · rw [fParse_part h0 h1 h2]; simp
        · rw [fParse_more hl (by rw [hf]; exact h1) (by rw [hf, List.length_append]; omega), hf, List.drop_append_of_le_length (by omega), List.drop_append_of_le_length (by omega), List.take_append_of_le_length (by rw [List.length_drop]; omega)]
          rw [ih (L.drop (2 + fLen L)).length (by rw [List.length_drop]; omega) _ M rfl]
          rw [fParse_more h0 h1 h2]
          cases h3 : (fParse (L.drop (2 + fLen L))).2.2 <;> simp [h3]
theorem fParse_append (L M : List UInt8) : fParse (L ++ M) = if (fParse L).2.2 then ((fParse L).1, [], true) else ((fParse L).1 ++ (fParse ((fParse L).2.1 ++ M)).1, (fParse ((fParse L).2.1 ++ M)).2) := fParse_app _ L M rfl
/-- A byte more. -/
theorem fStep_short {R : List UInt8} {x : UInt8} (h2 : (R ++ [x]).length < 2) : fOk (R ++ [x]) false = true := by
  unfold fOk
  simp only [Bool.false_eq_true, if_false]
  rw [if_pos h2]
theorem fStep_bad {R T : List UInt8} {x : UInt8} (h2 : ¬(R ++ [x]).length < 2) (h1 : fMay (fLen (R ++ [x])) = false) : fParse (R ++ x :: T) = ([], [], true) := by
  have e : R ++ x :: T = (R ++ [x]) ++ T := by simp
  rw [e]
  exact fParse_bad (by rw [List.length_append]; omega) (by rw [fLen_app (by omega)]; exact h1)
theorem fParse_full {S T : List UInt8} (h2 : ¬S.length < 2) (h1 : fMay (fLen S) = true) (h3 : S.length = 2 + fLen S) : fParse (S ++ T) = (S.drop 2 :: (fParse T).1, (fParse T).2) := by
  have hf : fLen (S ++ T) = fLen S := fLen_app (by omega)
  have e1 : (S ++ T).drop (2 + fLen S) = T := by rw [← h3, List.drop_left]
  rw [fParse_more (by rw [List.length_append]; omega) (by rw [hf]; exact h1) (by rw [hf, List.length_append]; omega), hf, e1, List.drop_append_of_le_length (by omega), List.take_append_of_le_length (by rw [List.length_drop]; omega), List.take_of_length_le (by rw [List.length_drop]; omega)]
theorem fStep_full {R T : List UInt8} {x : UInt8} (h2 : ¬(R ++ [x]).length < 2) (h1 : fMay (fLen (R ++ [x])) = true) (h3 : (R ++ [x]).length = 2 + fLen (R ++ [x])) : fParse (R ++ x :: T) = ((R ++ [x]).drop 2 :: (fParse T).1, (fParse T).2) := by
  have e : R ++ x :: T = (R ++ [x]) ++ T := by simp
  rw [e]
  exact fParse_full h2 h1 h3
theorem fStep_part {R : List UInt8} {x : UInt8} (h : fOk R false = true) (h2 : ¬(R ++ [x]).length < 2) (h1 : fMay (fLen (R ++ [x])) = true) (h3 : ¬(R ++ [x]).length = 2 + fLen (R ++ [x])) : fOk (R ++ [x]) false = true := by
  unfold fOk
  simp only [Bool.false_eq_true, if_false]
  rw [if_neg h2, h1, Bool.true_and, decide_eq_true_iff]
  have hl : (R ++ [x]).length = R.length + 1 := by simp
  have hm := fMay_iff.1 h1
  by_cases h0 : R.length < 2
  · omega
  · have hf : fLen (R ++ [x]) = fLen R := fLen_app (by omega)
    simp [fOk, h0] at h
    omega
/-- A whole frame ahead. -/
def fPutL (L : List UInt8) : List UInt8 := [UInt8.ofNat (L.length / 256), UInt8.ofNat L.length] ++ L
theorem fPutL_len (L : List UInt8) : (fPutL L).length = L.length + 2 := by simp [fPutL]
theorem fLen_put {L : List UInt8} (T : List UInt8) (h : L.length < 65536) : fLen (fPutL L ++ T) = L.length := by
  have h1 : (UInt8.ofNat (L.length / 256)).toNat = L.length / 256 := by rw [UInt8.toNat_ofNat']; omega
  have h2 : (UInt8.ofNat L.length).toNat = L.length % 256 := by rw [UInt8.toNat_ofNat']
  show 256 * (UInt8.ofNat (L.length / 256)).toNat + (UInt8.ofNat L.length).toNat = _
  rw [h1, h2]
  omega
theorem fParse_put {L : List UInt8} (T : List UInt8) (h1 : 1 ≤ L.length) (h2 : L.length ≤ 2048) : fParse (fPutL L ++ T) = (L :: (fParse T).1, (fParse T).2) := by
  have hf := fLen_put T (L := L) (by omega)
  have hl : (fPutL L ++ T).length = L.length + 2 + T.length := by rw [List.length_append, fPutL_len]
  rw [fParse_more (by omega) (by rw [hf]; exact fMay_iff.2 ⟨h1, h2⟩) (by omega), hf]
  have e1 : (fPutL L ++ T).drop 2 = L ++ T := rfl
  have e2 : (fPutL L ++ T).drop (2 + L.length) = T := by rw [← List.drop_drop, e1]; simp
  rw [e1, e2, List.take_append_of_le_length (Nat.le_refl _), List.take_length]
theorem fParse_puts {l : List (List UInt8)} (h : ∀ b ∈ l, 1 ≤ b.length ∧ b.length ≤ 2048) : fParse (l.map fPutL).flatten = (l, [], false) := by
  induction l with
  | nil => exact fParse_short (by simp)
  | cons b l ih =>
    have hb := h b (by simp)
    rw [List.map_cons, List.flatten_cons, fParse_put _ hb.1 hb.2, ih fun c hc => h c (by simp [hc])]
/-- What comes of a reader by bytes. -/
structure FFed where
  rest : List UInt8
  br : Bool
  told : List (List UInt8)
  e : Int
def fFeed (R : List UInt8) (br : Bool) (B : List UInt8) : FFed :=
  if fOk R br = false then ⟨R, br, [], 1⟩ else if br then ⟨[], true, [], 12⟩
  else ⟨(fParse (R ++ B)).2.1, (fParse (R ++ B)).2.2, (fParse (R ++ B)).1, if (fParse (R ++ B)).2.2 then 12 else 0⟩
theorem fFeed_bad {R B : List UInt8} {br : Bool} (h : fOk R br = false) : fFeed R br B = ⟨R, br, [], 1⟩ := if_pos h
theorem fFeed_br {R B : List UInt8} (h : fOk R true = true) : fFeed R true B = ⟨[], true, [], 12⟩ := by simp [fFeed, h]
theorem fFeed_go {R B : List UInt8} (h : fOk R false = true) : fFeed R false B = ⟨(fParse (R ++ B)).2.1, (fParse (R ++ B)).2.2, (fParse (R ++ B)).1, if (fParse (R ++ B)).2.2 then 12 else 0⟩ := by simp [fFeed, h]
theorem fOk_br {R : List UInt8} (h : fOk R true = true) : R = [] := by simpa [fOk] using h
theorem fFeed_right {R B : List UInt8} {br : Bool} (h : fOk R br = true) : fOk (fFeed R br B).rest (fFeed R br B).br = true := by
  cases br
  · rw [fFeed_go h]; exact fParse_right _
  · rw [fFeed_br h]; rfl
/-- In two parts. -/
theorem fFeed_two {R A B : List UInt8} {br : Bool} (h : fOk R br = true) : fFeed R br (A ++ B) = { fFeed (fFeed R br A).rest (fFeed R br A).br B with told := (fFeed R br A).told ++ (fFeed (fFeed R br A).rest (fFeed R br A).br B).told } := by
  cases br
  · rw [fFeed_go h, fFeed_go h]
    simp only
    have hr := fParse_right (R ++ A)
    rw [← List.append_assoc, fParse_append (R ++ A) B]
    cases hb : (fParse (R ++ A)).2.2
    · rw [hb] at hr
      rw [fFeed_go hr]
      simp
    · rw [hb] at hr
      rw [fFeed_br hr]
      simp
  · rw [fFeed_br h, fFeed_br h]
    rfl
theorem fFeed_e {R B : List UInt8} {br : Bool} (h : fOk R br = true) : (fFeed R br B).e = if (fFeed R br B).br then 12 else 0 := by
  cases br
  · rw [fFeed_go h]
  · rw [fFeed_br h]; rfl
end Go.Vd
