/- Rows of things: what a row says, as a list; one row for each way of cells. -/
import Derived.Test.YtnndgblnbhlplaaVdLib
set_option linter.unusedVariables false
set_option linter.unusedSimpArgs false
namespace Go.Vd

/-- How a thing lies in cells. -/
abbrev En (α : Type) := Ar → (Unit → α) → List SV
variable {α : Type}
def rowF (enc : En α) (d : α) (A : Ar) (L : Unit → List α) : Nat → Nat → SV := fun i j => getAt (enc A fun _ => (L ()).getD i d) j
def rowS (enc : En α) (d : α) (k : Nat) (A : Ar) (L : Unit → List α) : SV := .slc (A.tn fun _ => (L ()).length) k (rowF enc d A L)
/-- The row says the list. -/
def Reps (enc : En α) (d : α) (k n : Nat) (f : Nat → Nat → SV) (L : List α) : Prop := L.length = n ∧ ∀ i j, i < n → j < k → Ceq (f i j) (rowF enc d std (fun _ => L) i j)
def isRow (enc : En α) (d : α) (k n : Nat) (f : Nat → Nat → SV) : Prop := ∃ L, Reps enc d k n f L
open Classical in
noncomputable def lstOf (enc : En α) (d : α) (k n : Nat) (f : Nat → Nat → SV) : List α := if h : ∃ L, Reps enc d k n f L then Classical.choose h else []
/-- Unlike things lie unlike. -/
def Inj (enc : En α) (k : Nat) : Prop := ∀ x y : α, (∀ j, j < k → ∃ s, Ceq s (getAt (enc std fun _ => x) j) ∧ Ceq s (getAt (enc std fun _ => y) j)) → x = y

section
variable {enc : En α} {d : α} {k n m : Nat} {f g : Nat → Nat → SV} {L M : List α}
theorem Reps.get (h : Reps enc d k n f L) {i : Nat} (hi : i < n) {j : Nat} (hj : j < k) : Ceq (f i j) (getAt (enc std fun _ => L.getD i d) j) := h.2 i j hi hj
theorem Reps.uniq (hI : Inj enc k) (h : Reps enc d k n f L) (h' : Reps enc d k n f M) : L = M := by
  apply List.ext_getElem
  · rw [h.1, h'.1]
  · intro i h1 h2
    have hi : i < n := by rw [← h.1]; exact h1
    have := hI (L.getD i d) (M.getD i d) fun j hj => ⟨f i j, h.get hi hj, h'.get hi hj⟩
    simpa [List.getD_eq_getElem?_getD, h1, h2] using this
theorem lstOf_eq (hI : Inj enc k) (h : Reps enc d k n f L) : lstOf enc d k n f = L := by
  have hx : ∃ L, Reps enc d k n f L := ⟨L, h⟩
  unfold lstOf
  rw [dif_pos hx]
  exact (Classical.choose_spec hx).uniq hI h
theorem isRow.reps (h : isRow enc d k n f) : Reps enc d k n f (lstOf enc d k n f) := by
  unfold lstOf
  have hx : ∃ L, Reps enc d k n f L := h
  rw [dif_pos hx]
  exact Classical.choose_spec hx
theorem lstOf_length (h : isRow enc d k n f) : (lstOf enc d k n f).length = n := h.reps.1
theorem Reps.lit (L : List α) : Reps enc d k L.length (rowF enc d std fun _ => L) L := ⟨rfl, fun i j _ _ => .refl _⟩
theorem isRow_lit (L : List α) : isRow enc d k L.length (rowF enc d std fun _ => L) := ⟨L, .lit L⟩
theorem lstOf_lit (hI : Inj enc k) (L : List α) : lstOf enc d k L.length (rowF enc d std fun _ => L) = L := lstOf_eq hI (.lit L)
theorem Reps.cut (L : List α) (c : Nat) (h : c ≤ L.length) : Reps enc d k c (rowF enc d std fun _ => L) (L.take c) := by
  refine ⟨by simp; omega, fun i j hi hj => .of_eq ?_⟩
  simp [rowF, List.getD_eq_getElem?_getD, List.getElem?_take_of_lt hi]
theorem Reps.take (h : Reps enc d k n f L) (c : Nat) (hc : c ≤ n) : Reps enc d k c f (L.take c) := by
  refine ⟨by simp [h.1]; omega, fun i j hi hj => (h.2 i j (by omega) hj).trans (.of_eq ?_)⟩
  simp [rowF, List.getD_eq_getElem?_getD, List.getElem?_take_of_lt hi]
theorem Reps.cat (h : Reps enc d k n f L) (h' : Reps enc d k m g M) : Reps enc d k (n + m) (catS n f g) (L ++ M) := by
  refine ⟨by simp [h.1, h'.1], fun i j hi hj => ?_⟩
  show Ceq (if i < n then f i j else g (i - n) j) _
  by_cases hn : i < n
  · rw [if_pos hn]
    refine (h.2 i j hn hj).trans (.of_eq ?_)
    simp [rowF, List.getD_eq_getElem?_getD, List.getElem?_append_left (show i < L.length by rw [h.1]; exact hn)]
  · rw [if_neg hn]
    refine (h'.2 (i - n) j (by omega) hj).trans (.of_eq ?_)
    have := h.1
    subst this
    simp [rowF, List.getD_eq_getElem?_getD, List.getElem?_append_right (show L.length ≤ i by omega)]
theorem Reps.shift (h : Reps enc d k n f L) (lo : Nat) (hm : lo + m ≤ n) : Reps enc d k m (shiftS f lo) ((L.drop lo).take m) := by
  refine ⟨by simp [h.1]; omega, fun i j hi hj => ?_⟩
  show Ceq (f (lo + i) j) _
  refine (h.2 (lo + i) j (by omega) hj).trans (.of_eq ?_)
  simp [rowF, List.getD_eq_getElem?_getD, List.getElem?_take_of_lt hi]
theorem Reps.shift' (h : Reps enc d k n f L) (lo : Nat) (hm : lo ≤ n) : Reps enc d k (n - lo) (fun i j => f (lo + i) j) (L.drop lo) := by
  refine ⟨by simp [h.1], fun i j hi hj => ?_⟩
  refine (h.2 (lo + i) j (by omega) hj).trans (.of_eq ?_)
  simp [rowF, List.getD_eq_getElem?_getD]
theorem Reps.rset (h : Reps enc d k n f L) {i : Nat} (hi : i < n) (x : α) {l : List SV} (hl : l.length = k) (hx : ∀ j, j < k → Ceq (getAt l j) (getAt (enc std fun _ => x) j)) : Reps enc d k n (rsetS f i 0 l) (L.set i x) := by
  refine ⟨by simp [h.1], fun i' j hi' hj => ?_⟩
  show Ceq (if i' = i ∧ 0 ≤ j ∧ j < 0 + l.length then getAt l (j - 0) else f i' j) _
  by_cases he : i' = i
  · subst he
    rw [if_pos ⟨rfl, by omega, by omega⟩, Nat.sub_zero]
    refine (hx j hj).trans (.of_eq ?_)
    simp [rowF, List.getD_eq_getElem?_getD, h.1, hi]
  · rw [if_neg (fun e => he e.1)]
    refine (h.2 i' j hi' hj).trans (.of_eq ?_)
    simp [rowF, List.getD_eq_getElem?_getD, List.getElem?_set, Ne.symm he]
theorem Reps.rcopy (h : Reps enc d k n f L) (h' : Reps enc d k m g M) (lo : Nat) (hm : lo + m ≤ n) : Reps enc d k n (rcopyS f lo m g) (L.take lo ++ M ++ L.drop (lo + m)) := by
  have e1 := h.1
  have e2 := h'.1
  refine ⟨by simp; omega, fun i j hi hj => ?_⟩
  show Ceq (if lo ≤ i ∧ i < lo + m then g (i - lo) j else f i j) _
  by_cases hc : lo ≤ i ∧ i < lo + m
  · rw [if_pos hc]
    refine (h'.2 (i - lo) j (by omega) hj).trans (.of_eq ?_)
    have t : (L.take lo).length = lo := by simp; omega
    simp only [rowF, List.getD_eq_getElem?_getD]
    rw [List.append_assoc, List.getElem?_append_right (by omega), t, List.getElem?_append_left (by omega)]
  · rw [if_neg hc]
    refine (h.2 i j hi hj).trans (.of_eq ?_)
    have t : (L.take lo).length = lo := by simp; omega
    simp only [rowF, List.getD_eq_getElem?_getD]
    by_cases hl : i < lo
    · rw [List.append_assoc, List.getElem?_append_left (by omega), List.getElem?_take_of_lt hl]
    · have e3 : lo + m + (i - (lo + m)) = i := by omega
      rw [List.getElem?_append_right (by simp; omega), List.getElem?_drop, List.length_append, t, e2, e3]
theorem Reps.lst {l : List (List SV)} {L : List α} (h : All2 (fun c x => ∀ j, j < k → Ceq (getAt c j) (getAt (enc std fun _ => x) j)) l L) : Reps enc d k l.length (lstS l) L := by
  have hlen := h.length
  refine ⟨hlen.symm, fun i j hi hj => ?_⟩
  show Ceq (getAt (l[i]?.getD []) j) _
  have := h.get i l[i] (L[i]'(by omega)) (List.getElem?_eq_getElem hi) (List.getElem?_eq_getElem (by omega)) j hj
  simpa [rowF, List.getD_eq_getElem?_getD, List.getElem?_eq_getElem hi, List.getElem?_eq_getElem (show i < L.length by omega)] using this
theorem Reps.nil {f : Nat → Nat → SV} : Reps enc d k 0 f [] := ⟨rfl, fun i j hi => absurd hi (by omega)⟩
theorem Reps.congr {n' : Nat} {L' : List α} (h : Reps enc d k n f L) (e : n' = n) (e' : L = L') : Reps enc d k n' f L' := by subst e e'; exact h
theorem Reps.ceq {f' : Nat → Nat → SV} (h : Reps enc d k n f L) (e : ∀ i j, i < n → j < k → Ceq (f' i j) (f i j)) : Reps enc d k n f' L := ⟨h.1, fun i j hi hj => (e i j hi hj).trans (h.2 i j hi hj)⟩
/-- It says no more. -/
theorem Reps.eqr (h : Reps enc d k n f L) : eqrS n k f (rowF enc d std fun _ => L) := h.2
theorem Reps.eqr' {m : Nat} (h : Reps enc d k n f L) (e : m = n) : eqrS m k f (rowF enc d std fun _ => L) := e ▸ h.2
theorem Reps.sv (h : Reps enc d k n f L) : sv1 (.slc n k f) (rowS enc d k std fun _ => L) := by
  refine ⟨rowF enc d std fun _ => L, ?_, h.2⟩
  show SV.slc L.length k _ = _
  rw [h.1]
theorem Reps.cell (h : Reps enc d k n f L) : Ceq (.slc n k f) (rowS enc d k std fun _ => L) := by
  have := h.1
  subst this
  exact .slc _ _ _ _ h.2
theorem isRow.sv (h : isRow enc d k n f) : sv1 (.slc n k f) (rowS enc d k std fun _ => lstOf enc d k n f) := h.reps.sv
theorem Ceq.row {s : SV} {L : List α} (h : Ceq s (rowS enc d k std fun _ => L)) : (L = [] ∧ (s = .nils ∨ s = .emp)) ∨ ∃ f, s = .slc L.length k f ∧ Reps enc d k L.length f L := by
  have e : rowS enc d k std (fun _ => L) = .slc L.length k (rowF enc d std fun _ => L) := rfl
  rw [e] at h
  generalize hn : L.length = n at h
  generalize hf : (rowF enc d std fun _ => L) = g at h
  cases h with
  | refl => subst hn hf; exact .inr ⟨_, rfl, .lit L⟩
  | slc _ _ f _ he => subst hn hf; exact .inr ⟨f, rfl, rfl, he⟩
  | nils => exact .inl ⟨List.length_eq_zero_iff.1 hn, .inl rfl⟩
  | emp => exact .inl ⟨List.length_eq_zero_iff.1 hn, .inr rfl⟩
theorem Inj.row (hI : Inj enc k) {s : SV} {L M : List α} (h : Ceq s (rowS enc d k std fun _ => L)) (h' : Ceq s (rowS enc d k std fun _ => M)) : L = M := by
  rcases h.row with ⟨rfl, hs⟩ | ⟨f, rfl, hr⟩
  · rcases h'.row with ⟨rfl, _⟩ | ⟨f, rfl, hr'⟩
    · rfl
    · rcases hs with hs | hs <;> cases hs
  · rcases h'.row with ⟨rfl, hs⟩ | ⟨f', e, hr'⟩
    · rcases hs with hs | hs <;> cases hs
    · have e1 : L.length = M.length := by injection e
      have e2 : f = f' := by injection e
      subst e2
      rw [← e1] at hr'
      exact hr.uniq hI hr'
end

section
variable {enc : En α} {d : α} {k n m : Nat} {f g : Nat → Nat → SV} {L M : List α}
theorem eqr_of {n' : Nat} (h : Reps enc d k n f M) (e : n' = n) (e' : M = L) : eqrS n' k f (rowF enc d std fun _ => L) := by subst e e'; exact h.2
theorem Reps.fill {x : α} (h : ∀ j, j < k → Ceq (g 0 j) (getAt (enc std fun _ => x) j)) (hg : ∀ i, g i = g 0) : Reps enc d k n g (List.replicate n x) := by
  refine ⟨by simp, fun i j hi hj => ?_⟩
  rw [hg i]
  refine (h j hj).trans (.of_eq ?_)
  simp [rowF, List.getD_eq_getElem?_getD, hi]
theorem Reps.one {c : List SV} {x : α} (hx : ∀ j, j < k → Ceq (getAt c j) (getAt (enc std fun _ => x) j)) : Reps enc d k 1 (lstS [c]) [x] := Reps.lst (l := [c]) (L := [x]) ⟨hx, trivial⟩
end

@[simp] theorem eqrS_rfl {n k : Nat} {f : Nat → Nat → SV} : eqrS n k f f := fun _ _ _ _ => .refl _
/-! ### Bytes, numbers, texts; rows of rows -/
def eB : En UInt8 := fun A b => [.int .u8 (A.ti fun _ => ((b ()).toNat : Int))]
def eZ : En Int := fun A z => [.int .i64 (A.ti fun _ => z ())]
theorem inj_eZ : Inj eZ 1 := fun x y h => by
  obtain ⟨s, h1, h2⟩ := h 0 (by omega)
  have h1 : Ceq s (.int .i64 x) := h1
  have h2 : Ceq s (.int .i64 y) := h2
  rw [Ceq.int] at h1 h2
  subst h1
  injection h2
theorem cell_eZ (z : Int) : ∀ j, j < 1 → Ceq (getAt [SV.int .i64 z] j) (getAt (eZ std fun _ => z) j) := by
  intro j hj
  obtain rfl : j = 0 := by omega
  exact .refl _
theorem Reps.bytesOf (L : List UInt8) (f : Nat → Nat → SV) (h : ∀ i, f i 0 = .int .u8 ((L[i]?.getD 0).toNat : Int)) : Reps eB 0 1 L.length f L := ⟨rfl, fun i j hi hj => by
  obtain rfl : j = 0 := by omega
  rw [h]
  exact .of_eq (by simp [rowF, eB, getAt, std, strOfS, List.getD_eq_getElem?_getD])⟩
theorem take_snoc {α : Type} {L : List α} {i : Nat} {d : α} (h : i < L.length) : L.take i ++ [L.getD i d] = L.take (i + 1) := by
  rw [List.take_succ_eq_append_getElem h]
  simp [List.getD_eq_getElem?_getD, h]
end Go.Vd

