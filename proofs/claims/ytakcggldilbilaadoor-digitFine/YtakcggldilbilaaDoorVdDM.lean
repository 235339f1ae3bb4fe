/- Digits, as lists of bytes say them. -/
import Derived.Test.YtakcggldilbilaaDoorVdSimp
set_option linter.unusedVariables false
set_option linter.unusedSimpArgs false
namespace Go.Vd
def isDb (b : UInt8) : Bool := decide (48 ≤ b.toNat) && decide (b.toNat ≤ 57)
def isD (L : List UInt8) : Bool := !L.isEmpty && L.all isDb
theorem isDb_iff {b : UInt8} : isDb b = true ↔ 48 ≤ b.toNat ∧ b.toNat ≤ 57 := by simp [isDb]
theorem isD_iff {L : List UInt8} : isD L = true ↔ L ≠ [] ∧ ∀ b ∈ L, isDb b = true := by
  simp [isD, List.all_eq_true]
def dig (b : UInt8) : Nat := b.toNat - 48
/-- The number that digits are. -/
def dVal (L : List UInt8) : Nat := L.foldl (fun v b => 10 * v + dig b) 0
theorem dVal_snoc (L : List UInt8) (b : UInt8) : dVal (L ++ [b]) = 10 * dVal L + dig b := by simp [dVal]
theorem dVal_nil : dVal [] = 0 := rfl
/-- The last n digits of a number. -/
def decs : Nat → Nat → List UInt8
  | 0, _ => []
  | n + 1, v => decs n (v / 10) ++ [UInt8.ofNat (48 + v % 10)]
theorem decs_len : ∀ n v, (decs n v).length = n
  | 0, _ => rfl
  | n + 1, v => by simp [decs, decs_len n]
theorem dig_of {k : Nat} (h : k < 10) : (UInt8.ofNat (48 + k)).toNat = 48 + k := by rw [UInt8.toNat_ofNat']; omega
theorem dig_lt {b : UInt8} (h : isDb b = true) : dig b < 10 := by have := isDb_iff.1 h; unfold dig; omega
theorem of_dig {b : UInt8} (h : isDb b = true) : UInt8.ofNat (48 + dig b) = b := by
  have h1 := isDb_iff.1 h
  apply UInt8.toNat_inj.1
  rw [UInt8.toNat_ofNat']
  unfold dig
  omega
theorem decs_dig : ∀ n v, ∀ b ∈ decs n v, isDb b = true
  | 0, _, b, h => by simp [decs] at h
  | n + 1, v, b, h => by
    simp only [decs, List.mem_append, List.mem_singleton] at h
    rcases h with h | h
    · exact decs_dig n _ b h
    · subst h
      rw [isDb_iff, dig_of (Nat.mod_lt _ (by omega))]
      have := Nat.mod_lt v (show 0 < 10 by omega)
      omega
theorem decs_is {n v : Nat} (h : 1 ≤ n) : isD (decs n v) = true := by
  rw [isD_iff]
  refine ⟨fun e => ?_, decs_dig n v⟩
  have := decs_len n v
  rw [e] at this
  simp at this
  omega
theorem dVal_decs : ∀ n v, dVal (decs n v) = v % 10 ^ n
  | 0, v => by rw [Nat.pow_zero, Nat.mod_one]; rfl
  | n + 1, v => by
    rw [decs, dVal_snoc, dVal_decs n]
    have h1 : dig (UInt8.ofNat (48 + v % 10)) = v % 10 := by unfold dig; rw [dig_of (Nat.mod_lt _ (by omega))]; omega
    rw [h1, Nat.pow_succ, Nat.mul_comm (10 ^ n) 10, Nat.mod_mul]
    omega
theorem snoc_ind {P : List UInt8 → Prop} (h0 : P []) (h1 : ∀ L b, P L → P (L ++ [b])) (L : List UInt8) : P L := by
  have : ∀ n, ∀ L : List UInt8, L.length = n → P L := by
    intro n
    induction n with
    | zero => intro L h; rw [List.length_eq_zero_iff.1 h]; exact h0
    | succ n ih =>
      intro L h
      have hne : L ≠ [] := by intro e; rw [e] at h; simp at h
      rw [← List.dropLast_concat_getLast hne]
      exact h1 _ _ (ih _ (by rw [List.length_dropLast]; omega))
  exact this _ L rfl
theorem dVal_lt (L : List UInt8) (h : ∀ b ∈ L, isDb b = true) : dVal L < 10 ^ L.length := by
  induction L using snoc_ind with
  | h0 => simp [dVal]
  | h1 L b ih =>
    have h1 := ih fun c hc => h c (by simp [hc])
    have h2 := dig_lt (h b (by simp))
    rw [dVal_snoc, List.length_append, List.length_singleton, Nat.pow_succ]
    omega
theorem decs_dVal (L : List UInt8) (h : ∀ b ∈ L, isDb b = true) : decs L.length (dVal L) = L := by
  induction L using snoc_ind with
  | h0 => rfl
  | h1 L b ih =>
    have h2 := dig_lt (h b (by simp))
    rw [List.length_append, List.length_singleton, decs, dVal_snoc]
    have e1 : (10 * dVal L + dig b) / 10 = dVal L := by omega
    have e2 : (10 * dVal L + dig b) % 10 = dig b := by omega
    rw [e1, e2, ih fun c hc => h c (by simp [hc]), of_dig (h b (by simp))]
theorem p19 {n : Nat} (h : n ≤ 19) : 10 ^ n ≤ 10000000000000000000 := Nat.pow_le_pow_right (n := 10) (by omega) h
/-- The greater number's digits come behind. -/
theorem decs_lt {n : Nat} : ∀ {v w : Nat}, v < 10 ^ n → w < 10 ^ n → (decs n v < decs n w ↔ v < w) := by
  have hcons : ∀ (n v : Nat), v < 10 ^ (n + 1) → ∃ d t, d < 10 ∧ t < 10 ^ n ∧ v = d * 10 ^ n + t ∧ decs (n + 1) v = UInt8.ofNat (48 + d) :: decs n t := by
    intro n
    induction n with
    | zero =>
      intro v h
      refine ⟨v, 0, by omega, by simp, by simp, ?_⟩
      simp only [decs, List.nil_append]
      rw [Nat.mod_eq_of_lt (by omega)]
    | succ n ih =>
      intro v h
      obtain ⟨d, t, hd, ht, hv, e⟩ := ih (v / 10) (by rw [Nat.pow_succ] at h; omega)
      refine ⟨d, t * 10 + v % 10, hd, by rw [Nat.pow_succ]; omega, ?_, ?_⟩
      · have h1 : d * 10 ^ (n + 1) = d * 10 ^ n * 10 := by rw [Nat.pow_succ, Nat.mul_assoc]
        omega
      · rw [decs, e, decs]
        have e1 : (t * 10 + v % 10) / 10 = t := by omega
        have e2 : (t * 10 + v % 10) % 10 = v % 10 := by omega
        rw [e1, e2]
        rfl
  induction n with
  | zero => intro v w hv hw; simp [decs]; simp at hv hw; omega
  | succ n ih =>
    intro v w hv hw
    obtain ⟨d, t, hd, ht, rfl, e⟩ := hcons n v hv
    obtain ⟨d', t', hd', ht', rfl, e'⟩ := hcons n w hw
    have k1 : UInt8.ofNat (48 + d) < UInt8.ofNat (48 + d') ↔ d < d' := by rw [UInt8.lt_iff_toNat_lt, dig_of hd, dig_of hd']; omega
    have k2 : UInt8.ofNat (48 + d) = UInt8.ofNat (48 + d') ↔ d = d' := by rw [← UInt8.toNat_inj, dig_of hd, dig_of hd']; omega
    rw [e, e', List.cons_lt_cons_iff, ih ht ht', k1, k2]
    have hm : ∀ a b : Nat, a < b → (a + 1) * 10 ^ n ≤ b * 10 ^ n := fun a b h => Nat.mul_le_mul_right _ h
    constructor
    · rintro (h | ⟨h, h2⟩)
      · have := hm d d' h; rw [Nat.succ_mul] at this; omega
      · subst h; omega
    · intro h
      rcases Nat.lt_trichotomy d d' with h1 | h1 | h1
      · exact .inl h1
      · subst h1; exact .inr ⟨rfl, by omega⟩
      · have := hm d' d h1; rw [Nat.succ_mul] at this; omega
/-! ### Luhn's sum -/
def lW (d : Nat) (t : Bool) : Nat := if t then (if 4 < d then 2 * d - 9 else 2 * d) else d
/-- From the end. -/
def lSum : List UInt8 → Bool → Nat
  | [], _ => 0
  | b :: R, t => lW (dig b) t + lSum R (!t)
def odd : Nat → Bool
  | 0 => false
  | n + 1 => !odd n
theorem lSum_snoc : ∀ (R : List UInt8) (b : UInt8) (t : Bool), lSum (R ++ [b]) t = lSum R t + lW (dig b) (t ^^ odd R.length)
  | [], b, t => by simp [lSum, odd]
  | c :: R, b, t => by
    simp only [List.cons_append, lSum, lSum_snoc R b, List.length_cons, odd]
    cases t <;> simp <;> omega
theorem odd_mod : ∀ n, odd n = decide (n % 2 = 1)
  | 0 => rfl
  | n + 1 => by
    rw [odd, odd_mod n]
    rcases Nat.mod_two_eq_zero_or_one n with h | h
    · rw [h]; simp; omega
    · rw [h]; simp; omega
def lFine (L : List UInt8) : Bool := isD L && decide (lSum L.reverse false % 10 = 0)
def lCheck (L : List UInt8) : Nat := (10 - lSum L.reverse true % 10) % 10
def dC (k : Nat) : UInt8 := UInt8.ofNat (48 + k)
theorem isD_snoc {L : List UInt8} {k : Nat} (h : isD L = true) (hk : k < 10) : isD (L ++ [dC k]) = true := by
  rw [isD_iff] at h ⊢
  refine ⟨by simp, fun b hb => ?_⟩
  simp only [List.mem_append, List.mem_singleton] at hb
  rcases hb with hb | hb
  · exact h.2 b hb
  · subst hb; rw [isDb_iff, dC, dig_of hk]; omega
theorem dig_dC {k : Nat} (h : k < 10) : dig (dC k) = k := by unfold dig dC; rw [dig_of h]; omega
theorem lFine_snoc {L : List UInt8} {k : Nat} (h : isD L = true) (hk : k < 10) : lFine (L ++ [dC k]) = decide (k = lCheck L) := by
  unfold lFine lCheck
  rw [isD_snoc h hk, Bool.true_and, List.reverse_append]
  simp only [List.reverse_singleton, List.singleton_append, lSum, lW, dig_dC hk, Bool.not_false]
  simp
  omega
theorem lW_lt {d : Nat} {t : Bool} (h : d < 10) : lW d t < 10 := by
  unfold lW; cases t <;> simp <;> (try split) <;> omega
theorem lW_inj {d e : Nat} {t : Bool} (h : d < 10) (h' : e < 10) (hl : lW d t = lW e t) : d = e := by
  revert hl
  unfold lW
  cases t
  · simp
  · simp only [if_true]
    split <;> split <;> omega
/-- One digit turned. -/
theorem lSum_set : ∀ (R : List UInt8) (k : Nat) (x : UInt8) (t : Bool), (∀ b ∈ R, isDb b = true) → isDb x = true → k < R.length → (lSum (R.set k x) t % 10 = lSum R t % 10 ↔ x = R.getD k 0)
  | [], k, x, t, _, _, hk => by simp at hk
  | b :: R, 0, x, t, hR, hx, _ => by
    have h1 := dig_lt (hR b (by simp))
    have h2 := dig_lt hx
    have h3 := lW_lt (t := t) h1
    have h4 := lW_lt (t := t) h2
    simp only [List.set_cons_zero, lSum, List.getD_cons_zero]
    constructor
    · intro h
      have : lW (dig x) t = lW (dig b) t := by omega
      have := lW_inj h2 h1 this
      rw [← of_dig hx, ← of_dig (hR b (by simp)), this]
    · intro h; rw [h]
  | b :: R, k + 1, x, t, hR, hx, hk => by
    have ih := lSum_set R k x (!t) (fun c hc => hR c (by simp [hc])) hx (by simpa using hk)
    simp only [List.set_cons_succ, lSum, List.getD_cons_succ]
    rw [← ih]
    omega
theorem isD_set {L : List UInt8} {k : Nat} {x : UInt8} (h : isD L = true) (hx : isDb x = true) : isD (L.set k x) = true := by
  rw [isD_iff] at h ⊢
  refine ⟨by simpa using h.1, fun b hb => ?_⟩
  rcases List.mem_or_eq_of_mem_set hb with hb | hb
  · exact h.2 b hb
  · rw [hb]; exact hx
theorem rev_set : ∀ {L : List UInt8} {k : Nat} {x : UInt8}, k < L.length → (L.set k x).reverse = L.reverse.set (L.length - 1 - k) x := by
  intro L k x hk
  apply List.ext_getElem (by simp)
  intro i h1 h2
  simp at h1 h2
  rw [List.getElem_reverse, List.getElem_set, List.getElem_set, List.getElem_reverse]
  simp only [List.length_set]
  by_cases e : k = L.length - 1 - i
  · rw [if_pos e, if_pos (by omega)]
  · rw [if_neg e, if_neg (by omega)]
theorem rev_getD {L : List UInt8} {k : Nat} (hk : k < L.length) : L.reverse.getD (L.length - 1 - k) 0 = L.getD k 0 := by
  rw [List.getD_eq_getElem?_getD, List.getD_eq_getElem?_getD, List.getElem?_reverse (by omega)]
  congr 2
  omega
theorem lFine_set {L : List UInt8} {k : Nat} {x : UInt8} (h : lFine L = true) (hx : isDb x = true) (hk : k < L.length) : lFine (L.set k x) = decide (x = L.getD k 0) := by
  simp only [lFine, Bool.and_eq_true, decide_eq_true_eq] at h
  have hi := isD_iff.1 h.1
  unfold lFine
  rw [isD_set h.1 hx, Bool.true_and, rev_set hk]
  have := lSum_set L.reverse (L.length - 1 - k) x false (fun b hb => hi.2 b (by simpa using hb)) hx (by simp; omega)
  rw [h.2, rev_getD hk] at this
  simp only [this]
end Go.Vd
