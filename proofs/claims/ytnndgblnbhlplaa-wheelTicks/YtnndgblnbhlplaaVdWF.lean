/- Timers in order; the wheel of a list of timers. Mathematics only. -/
import Derived.Test.YtnndgblnbhlplaaVdWC
import Derived.WalkKit
import Derived.Lib.Walk
import Derived.Lib.AppendZerosOnto
import Derived.Lib.Overlaps
import Derived.Lib.SliceRun
import Derived.Laws.Externs
import Derived.Deep.RegionLaw
import Derived.Test.YtnndgblnbhlplaaVdX2
set_option linter.unusedVariables false
set_option linter.unusedSimpArgs false
set_option maxRecDepth 100000
set_option maxHeartbeats 4000000
namespace Go.Vd
open Go.Proofs
/-! ### The order -/
theorem tK_lt {s t : Int} {r q : List UInt8} : ordK s r t q < 0 ↔ s < t ∨ (s = t ∧ r < q) := by
  rw [ordK_eq]
  by_cases e : s = t ∧ r = q
  · rw [if_pos e]
    obtain ⟨rfl, rfl⟩ := e
    constructor
    · intro h; omega
    · rintro (h | h)
      · omega
      · exact absurd h.2 (List.lt_irrefl _)
  · rw [if_neg e]
    by_cases h : s < t ∨ (s = t ∧ r < q)
    · rw [if_pos h]; simp [h]
    · rw [if_neg h]; simp [h]
/-- Ahead of another timer. -/
def ltT (a b : Tm) : Prop := a.u < b.u ∨ (a.u = b.u ∧ (a.s < b.s ∨ (a.s = b.s ∧ a.r < b.r)))
theorem ordT_lt {a b : Tm} : ordT a b < 0 ↔ ltT a b := by
  have h := lessT_eq a b
  unfold lessT at h
  rw [decide_eq_decide] at h
  rw [h, tK_lt]
  exact Iff.rfl
theorem ltT_irr (a : Tm) : ¬ltT a a := by
  rintro (h | ⟨_, h | ⟨_, h⟩⟩)
  · omega
  · omega
  · exact List.lt_irrefl _ h
theorem ltT_trans {a b c : Tm} (h1 : ltT a b) (h2 : ltT b c) : ltT a c := by
  rcases h1 with h1 | ⟨e1, h1⟩
  · rcases h2 with h2 | ⟨e2, h2⟩
    · exact .inl (by omega)
    · exact .inl (by omega)
  · rcases h2 with h2 | ⟨e2, h2⟩
    · exact .inl (by omega)
    · refine .inr ⟨by omega, ?_⟩
      rcases h1 with h1 | ⟨f1, h1⟩
      · rcases h2 with h2 | ⟨f2, h2⟩
        · exact .inl (by omega)
        · exact .inl (by omega)
      · rcases h2 with h2 | ⟨f2, h2⟩
        · exact .inl (by omega)
        · exact .inr ⟨by omega, List.lt_trans h1 h2⟩
theorem ltT_tri (a b : Tm) : ltT a b ∨ a = b ∨ ltT b a := by
  rcases Int.lt_trichotomy a.u b.u with h | h | h
  · exact .inl (.inl h)
  · rcases Int.lt_trichotomy a.s b.s with h2 | h2 | h2
    · exact .inl (.inr ⟨h, .inl h2⟩)
    · rcases triS a.r b.r with ⟨h3, _⟩ | ⟨h3, _⟩ | ⟨h3, _⟩
      · exact .inl (.inr ⟨h, .inr ⟨h2, h3⟩⟩)
      · refine .inr (.inl ?_)
        cases a; cases b
        simp only [Tm.mk.injEq]
        exact ⟨h2, h3, h⟩
      · exact .inr (.inr (.inr ⟨h.symm, .inr ⟨h2.symm, h3⟩⟩))
    · exact .inr (.inr (.inr ⟨h.symm, .inl h2⟩))
  · exact .inr (.inr (.inl h))
theorem ltT_asym {a b : Tm} (h : ltT a b) : ¬ltT b a := fun h2 => ltT_irr a (ltT_trans h h2)
def ascT (L : List Tm) : Prop := L.Pairwise ltT
/-- Of unlike keys. -/
def unlT (a b : Tm) : Prop := ¬(a.s = b.s ∧ a.r = b.r)
theorem unlT_symm {a b : Tm} (h : unlT a b) : unlT b a := fun e => h ⟨e.1.symm, e.2.symm⟩
def unlQ (L : List Tm) : Prop := L.Pairwise unlT
theorem unlT_ne {a b : Tm} (h : unlT a b) : ¬a = b := fun e => h (e ▸ ⟨rfl, rfl⟩)
/-- Lists in order are told by their members. -/
theorem ascT_uniq : ∀ {L M : List Tm}, ascT L → ascT M → (∀ x, x ∈ L ↔ x ∈ M) → L = M
  | [], [], _, _, _ => rfl
  | [], y :: M, _, _, h => by have := (h y).2 (List.mem_cons_self ..); simp at this
  | x :: L, [], _, _, h => by have := (h x).1 (List.mem_cons_self ..); simp at this
  | x :: L, y :: M, h1, h2, h => by
    have a := List.pairwise_cons.1 h1
    have b := List.pairwise_cons.1 h2
    have exy : x = y := by
      rcases List.mem_cons.1 ((h x).1 (List.mem_cons_self ..)) with e | hx
      · exact e
      · rcases List.mem_cons.1 ((h y).2 (List.mem_cons_self ..)) with e | hy
        · exact e.symm
        · exact absurd (ltT_trans (b.1 x hx) (a.1 y hy)) (ltT_irr y)
    subst exy
    congr 1
    refine ascT_uniq a.2 b.2 fun z => ⟨fun hz => ?_, fun hz => ?_⟩
    · rcases List.mem_cons.1 ((h z).1 (List.mem_cons_of_mem _ hz)) with e | hz'
      · subst e; exact absurd (a.1 z hz) (ltT_irr z)
      · exact hz'
    · rcases List.mem_cons.1 ((h z).2 (List.mem_cons_of_mem _ hz)) with e | hz'
      · subst e; exact absurd (b.1 z hz) (ltT_irr z)
      · exact hz'
/-! ### Putting in -/
def insT : List Tm → Tm → List Tm
  | [], x => [x]
  | y :: L, x => if lessT x y = true then x :: y :: L else y :: insT L x
theorem lessT_iff {a b : Tm} : lessT a b = true ↔ ltT a b := by unfold lessT; rw [decide_eq_true_eq, ordT_lt]
theorem insT_perm : ∀ (L : List Tm) (x : Tm), (insT L x).Perm (x :: L)
  | [], x => .refl _
  | y :: L, x => by
    unfold insT
    split
    · exact .refl _
    · exact ((insT_perm L x).cons y).trans (.swap x y L)
theorem insT_mem {L : List Tm} {x y : Tm} : y ∈ insT L x ↔ y = x ∨ y ∈ L := by rw [(insT_perm L x).mem_iff, List.mem_cons]
theorem insT_len (L : List Tm) (x : Tm) : (insT L x).length = L.length + 1 := by rw [(insT_perm L x).length_eq, List.length_cons]
theorem insT_asc : ∀ {L : List Tm} {x : Tm}, ascT L → (∀ y ∈ L, ¬y = x) → ascT (insT L x)
  | [], x, _, _ => List.pairwise_singleton ..
  | y :: L, x, h, hu => by
    have a := List.pairwise_cons.1 h
    unfold insT
    split
    · rename_i h1
      rw [lessT_iff] at h1
      refine List.pairwise_cons.2 ⟨fun z hz => ?_, h⟩
      rcases List.mem_cons.1 hz with rfl | hz
      · exact h1
      · exact ltT_trans h1 (a.1 z hz)
    · rename_i h1
      rw [lessT_iff] at h1
      refine List.pairwise_cons.2 ⟨fun z hz => ?_, insT_asc a.2 fun z hz => hu z (List.mem_cons_of_mem _ hz)⟩
      rcases insT_mem.1 hz with rfl | hz
      · rcases ltT_tri y z with h2 | h2 | h2
        · exact h2
        · exact absurd h2 (hu y (List.mem_cons_self ..))
        · exact absurd h2 h1
      · exact a.1 z hz
theorem insT_last : ∀ {L : List Tm} {x : Tm}, (∀ y ∈ L, ltT y x) → insT L x = L ++ [x]
  | [], x, _ => rfl
  | y :: L, x, h => by
    unfold insT
    rw [if_neg (by rw [lessT_iff]; exact ltT_asym (h y (List.mem_cons_self ..))), insT_last fun z hz => h z (List.mem_cons_of_mem _ hz)]
    rfl
theorem insT_at : ∀ {L : List Tm} {x : Tm} {j : Nat}, j ≤ L.length → (∀ k, k < j → lessT x (L.getD k T0) = false) → (j < L.length → lessT x (L.getD j T0) = true) → insT L x = L.take j ++ x :: L.drop j
  | [], x, j, h, _, _ => by
    have : j = 0 := by simpa using h
    subst this
    rfl
  | y :: L, x, 0, _, _, h => by
    have := h (by simp)
    simp only [List.getD_cons_zero] at this
    unfold insT
    rw [if_pos this]
    rfl
  | y :: L, x, j + 1, h, h1, h2 => by
    have := h1 0 (by omega)
    simp only [List.getD_cons_zero] at this
    unfold insT
    rw [this, if_neg (by decide), insT_at (by simpa using h) (fun k hk => by simpa using h1 (k + 1) (by omega)) (fun h => by simpa using h2 (by simpa using h))]
    rfl
def srtT (M : List Tm) : List Tm := M.foldl insT []
theorem foldT_perm : ∀ (M L : List Tm), (M.foldl insT L).Perm (L ++ M)
  | [], L => by simp
  | x :: M, L => by
    rw [List.foldl_cons]
    refine (foldT_perm M (insT L x)).trans ?_
    refine ((insT_perm L x).append_right M).trans ?_
    exact (List.perm_middle (a := x) (l₁ := L) (l₂ := M)).symm
theorem srtT_perm (M : List Tm) : (srtT M).Perm M := by have := foldT_perm M []; simpa [srtT] using this
theorem srtT_mem {M : List Tm} {x : Tm} : x ∈ srtT M ↔ x ∈ M := (srtT_perm M).mem_iff
theorem srtT_len (M : List Tm) : (srtT M).length = M.length := (srtT_perm M).length_eq
theorem foldT_asc : ∀ {M L : List Tm}, ascT L → (L ++ M).Pairwise (fun a b => ¬a = b) → ascT (M.foldl insT L)
  | [], L, h, _ => h
  | x :: M, L, h, hu => by
    rw [List.foldl_cons]
    have h2 := List.pairwise_append.1 hu
    have h3 := List.pairwise_cons.1 h2.2.1
    refine foldT_asc (insT_asc h fun y hy => h2.2.2 y hy x (List.mem_cons_self ..)) ?_
    refine List.pairwise_append.2 ⟨?_, h3.2, fun a ha b hb => ?_⟩
    · refine ((insT_perm L x).pairwise_iff fun {a b} (h : ¬a = b) => fun e => h e.symm).2 (List.pairwise_cons.2 ⟨fun y hy e => h2.2.2 y hy x (List.mem_cons_self ..) e.symm, h2.1⟩)
    · rcases insT_mem.1 ha with rfl | ha
      · exact h3.1 b hb
      · exact h2.2.2 a ha b (List.mem_cons_of_mem _ hb)
theorem srtT_asc {M : List Tm} (h : unlQ M) : ascT (srtT M) := foldT_asc List.Pairwise.nil (by rw [List.nil_append]; exact h.imp unlT_ne)
theorem srtT_unl {M : List Tm} (h : unlQ M) : unlQ (srtT M) := ((srtT_perm M).pairwise_iff fun {a b} => unlT_symm).2 h
theorem srtT_uniq {M L : List Tm} (h : unlQ M) (h1 : ascT L) (h2 : ∀ x, x ∈ L ↔ x ∈ M) : srtT M = L := ascT_uniq (srtT_asc h) h1 fun x => by rw [srtT_mem, h2]
/-! ### The wheel of a list -/
def inI (n : Int) (i : Nat) (t : Tm) : Bool := decide (t.u / 64 = n / 64 ∧ t.u % 64 = (i : Int))
def inO (n : Int) (i : Nat) (t : Tm) : Bool := decide (¬t.u / 64 = n / 64 ∧ t.u / 64 % 64 = (i : Int))
@[irreducible] def bI (n : Int) (L : List Tm) : Sl := (List.range 64).map fun i => L.filter (inI n i)
@[irreducible] def bO (n : Int) (L : List Tm) : Sl := (List.range 64).map fun i => L.filter (inO n i)
theorem bI_len (n : Int) (L : List Tm) : (bI n L).length = 64 := by unfold bI; simp
theorem bO_len (n : Int) (L : List Tm) : (bO n L).length = 64 := by unfold bO; simp
theorem bI_at {n : Int} {L : List Tm} {i : Nat} (h : i < 64) : sl (bI n L) i = L.filter (inI n i) := by
  unfold sl bI
  rw [List.getD_eq_getElem?_getD, List.getElem?_map, List.getElem?_range h]
  rfl
theorem bO_at {n : Int} {L : List Tm} {i : Nat} (h : i < 64) : sl (bO n L) i = L.filter (inO n i) := by
  unfold sl bO
  rw [List.getD_eq_getElem?_getD, List.getElem?_map, List.getElem?_range h]
  rfl
theorem sl_ext {I J : Sl} (h1 : I.length = 64) (h2 : J.length = 64) (h : ∀ i, i < 64 → sl I i = sl J i) : I = J := by
  apply List.ext_getElem (by omega)
  intro i h3 h4
  have := h i (by omega)
  unfold sl at this
  rw [List.getD_eq_getElem?_getD, List.getD_eq_getElem?_getD, List.getElem?_eq_getElem h3, List.getElem?_eq_getElem h4] at this
  exact this
theorem sl_set {I : Sl} (h : I.length = 64) {s : Nat} (hs : s < 64) (L : List Tm) (i : Nat) : sl (I.set s L) i = if i = s then L else sl I i := by
  unfold sl
  rw [List.getD_eq_getElem?_getD, List.getD_eq_getElem?_getD, List.getElem?_set]
  by_cases e : s = i
  · subst e
    simp [h, hs]
  · rw [if_neg e, if_neg (fun h => e h.symm)]
theorem filter_two (p q : Tm → Bool) : ∀ (L : List Tm), (∀ x ∈ L, ¬(p x = true ∧ q x = true)) → (L.filter fun x => p x || q x).Perm (L.filter p ++ L.filter q)
  | [], _ => by simp
  | x :: L, h => by
    have ih := filter_two p q L fun y hy => h y (List.mem_cons_of_mem _ hy)
    have hx := h x (List.mem_cons_self ..)
    cases hp : p x <;> cases hq : q x
    · simp [hp, hq, ih]
    · rw [List.filter_cons_of_pos (by simp [hq]), List.filter_cons_of_neg (by simp [hp]), List.filter_cons_of_pos hq]
      exact (ih.cons x).trans List.perm_middle.symm
    · rw [List.filter_cons_of_pos (by simp [hp]), List.filter_cons_of_pos hp, List.filter_cons_of_neg (by simp [hq])]
      exact ih.cons x
    · exact absurd ⟨hp, hq⟩ hx
theorem filter_all {p : Tm → Bool} {L : List Tm} (h : ∀ x ∈ L, p x = true) : L.filter p = L := List.filter_eq_self.2 h
theorem filter_none {p : Tm → Bool} {L : List Tm} (h : ∀ x ∈ L, p x = false) : L.filter p = [] := List.filter_eq_nil_iff.2 fun x hx => by rw [h x hx]; decide
def clT (n : Int) (t : Tm) : Int := if t.u / 64 = n / 64 then t.u % 64 else t.u / 64 % 64
theorem bIO_perm (n : Int) (L : List Tm) : ∀ k : Nat, k ≤ 64 → (allN (bI n L) (bO n L) k).Perm (L.filter fun t => decide (clT n t < (k : Int)))
  | 0, _ => by
    rw [filter_none]
    · exact .refl _
    · intro x hx
      rw [decide_eq_false_iff_not]
      unfold clT
      split <;> omega
  | k + 1, h => by
    have ih := bIO_perm n L k (by omega)
    have e : allN (bI n L) (bO n L) (k + 1) = allN (bI n L) (bO n L) k ++ (sl (bI n L) k ++ sl (bO n L) k) := rfl
    rw [e, bI_at (by omega), bO_at (by omega)]
    have h1 := filter_two (inI n k) (inO n k) L fun x _ ⟨h1, h2⟩ => by
      unfold inI at h1; unfold inO at h2
      exact (of_decide_eq_true h2).1 (of_decide_eq_true h1).1
    have h2 := filter_two (fun t => decide (clT n t < (k : Int))) (fun t => inI n k t || inO n k t) L fun x _ ⟨h1, h2⟩ => by
      have h1 := of_decide_eq_true h1
      unfold inI inO at h2
      unfold clT at h1
      rw [Bool.or_eq_true, decide_eq_true_eq, decide_eq_true_eq] at h2
      rcases h2 with h2 | h2
      · rw [if_pos h2.1] at h1; omega
      · rw [if_neg h2.1] at h1; omega
    refine (ih.append h1.symm).trans (h2.symm.trans (.of_eq ?_))
    congr 1
    funext t
    unfold inI inO clT
    rw [Bool.eq_iff_iff]
    simp only [Bool.or_eq_true, decide_eq_true_eq]
    by_cases hq : t.u / 64 = n / 64
    · rw [if_pos hq]
      constructor
      · rintro (h | h | h)
        · omega
        · omega
        · exact absurd hq h.1
      · intro h
        rcases Int.lt_or_le (t.u % 64) k with h1 | h1
        · exact .inl h1
        · exact .inr (.inl ⟨hq, by omega⟩)
    · rw [if_neg hq]
      constructor
      · rintro (h | h | h)
        · omega
        · exact absurd h.1 hq
        · omega
      · intro h
        rcases Int.lt_or_le (t.u / 64 % 64) k with h1 | h1
        · exact .inl h1
        · exact .inr (.inr ⟨hq, by omega⟩)
theorem bIO_all (n : Int) (L : List Tm) : (allT (bI n L) (bO n L)).Perm L := by
  rw [allT_eq]
  refine (bIO_perm n L 64 (Nat.le_refl _)).trans (.of_eq (filter_all fun x _ => ?_))
  rw [decide_eq_true_eq]
  unfold clT
  split <;> omega
/-- A timer that may be there at a tick. -/
def tmOk (n : Int) (t : Tm) : Prop := n < t.u ∧ t.u / 64 - n / 64 ≤ 63
/-- What a wheel may hold. -/
def canT (n : Int) (L : List Tm) : Prop := ascT L ∧ unlQ L ∧ ∀ t ∈ L, tmOk n t
/-! ### Right wheels -/
def slotOk (q : Bool) (n : Int) (i : Nat) (L : List Tm) : Prop := (∀ t ∈ L, belI q t.u n (i : Int) = true) ∧ ascT L
def wOk (n m : Int) (I O : Sl) : Prop := okRm m = true ∧ (∀ i, i < 64 → slotOk true n i (sl I i) ∧ slotOk false n i (sl O i)) ∧ unlQ (allT I O) ∧ ((allT I O).length : Int) ≤ m
open Classical in
noncomputable def wR (n m : Int) (I O : Sl) : Bool := decide (wOk n m I O)
theorem wR_iff {n m : Int} {I O : Sl} : wR n m I O = true ↔ wOk n m I O := by unfold wR; exact @decide_eq_true_iff _ (Classical.propDecidable _)
theorem belI_t {t n i : Int} : belI true t n i = true ↔ n < t ∧ t / 64 = n / 64 ∧ t % 64 = i := by
  unfold belI slotI
  by_cases h : t ≤ n
  · rw [if_pos h]; simp; omega
  · rw [if_neg h]
    simp only [if_true, Bool.and_eq_true, decide_eq_true_eq]
    omega
theorem belI_f {t n i : Int} : belI false t n i = true ↔ n < t ∧ ¬t / 64 = n / 64 ∧ t / 64 - n / 64 ≤ 63 ∧ t / 64 % 64 = i := by
  unfold belI slotI
  by_cases h : t ≤ n
  · rw [if_pos h]; simp; omega
  · rw [if_neg h]
    simp only [Bool.false_eq_true, if_false, Bool.and_eq_true, decide_eq_true_eq]
    omega
def lstW (I O : Sl) : List Tm := srtT (allT I O)
theorem mem_all {I O : Sl} {t : Tm} : t ∈ allT I O ↔ ∃ i, i < 64 ∧ (t ∈ sl I i ∨ t ∈ sl O i) := by rw [allT_eq]; exact mem_allN
theorem wOk_can {n m : Int} {I O : Sl} (hI : I.length = 64) (hO : O.length = 64) (h : wOk n m I O) : canT n (lstW I O) ∧ I = bI n (lstW I O) ∧ O = bO n (lstW I O) ∧ ((lstW I O).length : Int) ≤ m := by
  obtain ⟨h1, h2, h3, h4⟩ := h
  have hb : ∀ i, i < 64 → (∀ t ∈ sl I i, n < t.u ∧ t.u / 64 = n / 64 ∧ t.u % 64 = (i : Int)) ∧ ∀ t ∈ sl O i, n < t.u ∧ ¬t.u / 64 = n / 64 ∧ t.u / 64 - n / 64 ≤ 63 ∧ t.u / 64 % 64 = (i : Int) := fun i hi =>
    ⟨fun t ht => belI_t.1 ((h2 i hi).1.1 t ht), fun t ht => belI_f.1 ((h2 i hi).2.1 t ht)⟩
  have hasc := srtT_asc h3
  refine ⟨⟨hasc, srtT_unl h3, fun t ht => ?_⟩, ?_, ?_, by unfold lstW; rw [srtT_len]; exact h4⟩
  · obtain ⟨i, hi, ht⟩ := mem_all.1 (srtT_mem.1 ht)
    rcases ht with ht | ht
    · have := (hb i hi).1 t ht; unfold tmOk; omega
    · have := (hb i hi).2 t ht; unfold tmOk; omega
  · refine sl_ext hI (bI_len _ _) fun i hi => ?_
    rw [bI_at hi]
    refine ascT_uniq (h2 i hi).1.2 (hasc.sublist List.filter_sublist) fun t => ?_
    rw [List.mem_filter]
    unfold inI lstW
    rw [decide_eq_true_eq, srtT_mem, mem_all]
    constructor
    · intro ht
      have := (hb i hi).1 t ht
      exact ⟨⟨i, hi, .inl ht⟩, this.2⟩
    · rintro ⟨⟨j, hj, ht⟩, hq⟩
      rcases ht with ht | ht
      · have := (hb j hj).1 t ht
        obtain rfl : i = j := by omega
        exact ht
      · have := (hb j hj).2 t ht
        omega
  · refine sl_ext hO (bO_len _ _) fun i hi => ?_
    rw [bO_at hi]
    refine ascT_uniq (h2 i hi).2.2 (hasc.sublist List.filter_sublist) fun t => ?_
    rw [List.mem_filter]
    unfold inO lstW
    rw [decide_eq_true_eq, srtT_mem, mem_all]
    constructor
    · intro ht
      have := (hb i hi).2 t ht
      exact ⟨⟨i, hi, .inr ht⟩, this.2.1, this.2.2.2⟩
    · rintro ⟨⟨j, hj, ht⟩, hq⟩
      rcases ht with ht | ht
      · have := (hb j hj).1 t ht
        omega
      · have := (hb j hj).2 t ht
        obtain rfl : i = j := by omega
        exact ht
theorem can_ok {n m : Int} {L : List Tm} (h : canT n L) (hm : okRm m = true) (hl : (L.length : Int) ≤ m) : wOk n m (bI n L) (bO n L) := by
  refine ⟨hm, fun i hi => ⟨⟨fun t ht => ?_, ?_⟩, ⟨fun t ht => ?_, ?_⟩⟩, ?_, ?_⟩
  · rw [bI_at hi, List.mem_filter] at ht
    have h1 := h.2.2 t ht.1
    have h2 : t.u / 64 = n / 64 ∧ t.u % 64 = (i : Int) := of_decide_eq_true ht.2
    exact belI_t.2 ⟨h1.1, h2⟩
  · rw [bI_at hi]; exact h.1.sublist List.filter_sublist
  · rw [bO_at hi, List.mem_filter] at ht
    have h1 := h.2.2 t ht.1
    have h2 : ¬t.u / 64 = n / 64 ∧ t.u / 64 % 64 = (i : Int) := of_decide_eq_true ht.2
    exact belI_f.2 ⟨h1.1, h2.1, h1.2, h2.2⟩
  · rw [bO_at hi]; exact h.1.sublist List.filter_sublist
  · exact ((bIO_all n L).pairwise_iff fun {a b} => unlT_symm).2 h.2.1
  · rw [(bIO_all n L).length_eq]; exact hl
theorem can_lst {n : Int} {L : List Tm} (h : canT n L) : lstW (bI n L) (bO n L) = L :=
  srtT_uniq (((bIO_all n L).pairwise_iff fun {a b} => unlT_symm).2 h.2.1) h.1 fun x => ((bIO_all n L).mem_iff).symm
theorem wOk_can' {n m : Int} {I O : Sl} (hI : I.length = 64) (hO : O.length = 64) (h : wOk n m I O) : ∃ L, L = lstW I O ∧ canT n L ∧ I = bI n L ∧ O = bO n L ∧ (L.length : Int) ≤ m ∧ okRm m = true := by
  obtain ⟨a, b, c, d⟩ := wOk_can hI hO h
  exact ⟨_, rfl, a, b, c, d, h.1⟩
/-- As the reference says it. -/
def rwOk (n m : Int) (I O : Sl) : Prop := okRm m = true ∧ ((lstW I O).length : Int) ≤ m ∧ (∀ t ∈ lstW I O, tmOk n t) ∧ unlQ (lstW I O) ∧ I = bI n (lstW I O) ∧ O = bO n (lstW I O)
theorem rwOk_iff {n m : Int} {I O : Sl} (hI : I.length = 64) (hO : O.length = 64) : rwOk n m I O ↔ wOk n m I O := by
  constructor
  · rintro ⟨h1, h2, h3, h4, h5, h6⟩
    have hu : unlQ (allT I O) := ((srtT_perm (allT I O)).pairwise_iff fun {a b} => unlT_symm).1 h4
    have hc : canT n (lstW I O) := ⟨srtT_asc hu, h4, h3⟩
    have := can_ok hc h1 h2
    rw [← h5, ← h6] at this
    exact this
  · intro h
    obtain ⟨a, b, c, d⟩ := wOk_can hI hO h
    exact ⟨h.1, d, a.2.2, a.2.1, b, c⟩
/-! ### What is put into a wheel, and taken out -/
theorem can_ins {n : Int} {L : List Tm} {t : Tm} (h : canT n L) (ht : tmOk n t) (hu : ∀ x ∈ L, unlT x t) : canT n (insT L t) := by
  refine ⟨insT_asc h.1 fun y hy => unlT_ne (hu y hy), ?_, fun x hx => ?_⟩
  · exact ((insT_perm L t).pairwise_iff fun {a b} => unlT_symm).2 (List.pairwise_cons.2 ⟨fun y hy => unlT_symm (hu y hy), h.2.1⟩)
  · rcases insT_mem.1 hx with rfl | hx
    · exact ht
    · exact h.2.2 x hx
theorem filter_ins {L : List Tm} {t : Tm} (h : ascT L) (hu : ∀ x ∈ L, ¬x = t) (p : Tm → Bool) : (insT L t).filter p = if p t = true then insT (L.filter p) t else L.filter p := by
  split
  · rename_i hp
    refine ascT_uniq ((insT_asc h hu).sublist List.filter_sublist) (insT_asc (h.sublist List.filter_sublist) fun y hy => hu y (List.mem_filter.1 hy).1) fun x => ?_
    rw [List.mem_filter, insT_mem, insT_mem, List.mem_filter]
    constructor
    · rintro ⟨h1 | h1, h2⟩
      · exact .inl h1
      · exact .inr ⟨h1, h2⟩
    · rintro (h1 | h1)
      · exact ⟨.inl h1, h1 ▸ hp⟩
      · exact ⟨.inr h1.1, h1.2⟩
  · rename_i hp
    refine ascT_uniq ((insT_asc h hu).sublist List.filter_sublist) (h.sublist List.filter_sublist) fun x => ?_
    rw [List.mem_filter, insT_mem, List.mem_filter]
    constructor
    · rintro ⟨h1 | h1, h2⟩
      · subst h1; exact absurd h2 hp
      · exact ⟨h1, h2⟩
    · rintro ⟨h1, h2⟩
      exact ⟨.inr h1, h2⟩
theorem bI_ins {n : Int} {L : List Tm} {t : Tm} (h : ascT L) (hu : ∀ x ∈ L, ¬x = t) (hq : t.u / 64 = n / 64) {s : Nat} (hs : (s : Int) = t.u % 64) : bI n (insT L t) = (bI n L).set s (insT (sl (bI n L) s) t) ∧ bO n (insT L t) = bO n L := by
  have hs2 : s < 64 := by omega
  constructor
  · refine sl_ext (bI_len _ _) (by rw [List.length_set]; exact bI_len _ _) fun i hi => ?_
    rw [bI_at hi, filter_ins h hu, sl_set (bI_len _ _) hs2, bI_at hs2, bI_at hi]
    by_cases e : i = s
    · subst e
      rw [if_pos (by unfold inI; rw [decide_eq_true_eq]; omega), if_pos rfl]
    · rw [if_neg (by unfold inI; rw [decide_eq_true_eq]; omega), if_neg e]
  · refine sl_ext (bO_len _ _) (bO_len _ _) fun i hi => ?_
    rw [bO_at hi, filter_ins h hu, bO_at hi, if_neg (by unfold inO; rw [decide_eq_true_eq]; omega)]
theorem bO_ins {n : Int} {L : List Tm} {t : Tm} (h : ascT L) (hu : ∀ x ∈ L, ¬x = t) (hq : ¬t.u / 64 = n / 64) {s : Nat} (hs : (s : Int) = t.u / 64 % 64) : bO n (insT L t) = (bO n L).set s (insT (sl (bO n L) s) t) ∧ bI n (insT L t) = bI n L := by
  have hs2 : s < 64 := by omega
  constructor
  · refine sl_ext (bO_len _ _) (by rw [List.length_set]; exact bO_len _ _) fun i hi => ?_
    rw [bO_at hi, filter_ins h hu, sl_set (bO_len _ _) hs2, bO_at hs2, bO_at hi]
    by_cases e : i = s
    · subst e
      rw [if_pos (by unfold inO; rw [decide_eq_true_eq]; omega), if_pos rfl]
    · rw [if_neg (by unfold inO; rw [decide_eq_true_eq]; omega), if_neg e]
  · refine sl_ext (bI_len _ _) (bI_len _ _) fun i hi => ?_
    rw [bI_at hi, filter_ins h hu, bI_at hi, if_neg (by unfold inI; rw [decide_eq_true_eq]; omega)]
end Go.Vd

set_option linter.unusedVariables false
set_option linter.unusedSimpArgs false
namespace Go.Vd
open Go.RowKit
theorem list_ins {α : Type} (C news : List α) (K N s : Nat) (hK : K ≤ N) (hN : N + s ≤ C.length) (hn : news.length = s) :
    (((C.take (K + s) ++ (C.take N).drop K ++ C.drop (K + s + ((C.take N).drop K).length)).take K ++ news ++ (C.take (K + s) ++ (C.take N).drop K ++ C.drop (K + s + ((C.take N).drop K).length)).drop (K + s))).take (N + s) =
      (C.take N).take K ++ news ++ (C.take N).drop K := by
  have l1 : (C.take (K + s)).length = K + s := by rw [List.length_take]; omega
  have l2 : ((C.take N).drop K).length = N - K := by rw [List.length_drop, List.length_take]; omega
  have e1 : (C.take (K + s) ++ (C.take N).drop K ++ C.drop (K + s + ((C.take N).drop K).length)).take K = C.take K := by
    rw [List.append_assoc, List.take_append, show K - (C.take (K + s)).length = 0 by omega, List.take_zero, List.append_nil, List.take_take, show min K (K + s) = K by omega]
  have e2 : (C.take (K + s) ++ (C.take N).drop K ++ C.drop (K + s + ((C.take N).drop K).length)).drop (K + s) = (C.take N).drop K ++ C.drop (K + s + ((C.take N).drop K).length) := by
    rw [List.append_assoc, List.drop_append, List.drop_of_length_le (by omega), List.nil_append, l1, show K + s - (K + s) = 0 by omega, List.drop_zero]
  rw [e1, e2, ← List.append_assoc, List.take_append]
  have l3 : (C.take K ++ news ++ (C.take N).drop K).length = N + s := by rw [List.length_append, List.length_append, l2, hn, List.length_take]; omega
  rw [l3, List.take_of_length_le (by omega), show N + s - (N + s) = 0 by omega, List.take_zero, List.append_nil, List.take_take, show min K N = K by omega]
theorem list_ins2 {α : Type} (R xs news cs Z : List α) (K N s : Nat) (hK : K ≤ N) (hx : xs.length = N) (hR : R = xs.take K ++ Z) (hRl : N + s ≤ R.length) (hn : news.length = s) (hc : cs = xs.drop K) :
    ((R.take K ++ news ++ R.drop (K + news.length)).take (K + s) ++ cs ++ (R.take K ++ news ++ R.drop (K + news.length)).drop (K + s + cs.length)).take (N + s) = xs.take K ++ news ++ xs.drop K := by
  have l0 : (xs.take K).length = K := by rw [List.length_take]; omega
  have e0 : R.take K = xs.take K := by rw [hR, List.take_append, l0, show K - K = 0 by omega, List.take_zero, List.append_nil, List.take_take, show min K K = K by omega]
  have l1 : (R.take K ++ news).length = K + s := by rw [e0, List.length_append, l0, hn]
  have e1 : (R.take K ++ news ++ R.drop (K + news.length)).take (K + s) = R.take K ++ news := by
    rw [List.take_append, l1, show K + s - (K + s) = 0 by omega, List.take_zero, List.append_nil, List.take_of_length_le (by omega)]
  rw [e1, e0, hc]
  have l2 : (xs.take K ++ news ++ xs.drop K).length = N + s := by rw [List.length_append, List.length_append, l0, hn, List.length_drop]; omega
  rw [List.take_append, l2, show N + s - (N + s) = 0 by omega, List.take_zero, List.append_nil, List.take_of_length_le (by omega)]
/-- A row with one element more. -/
def insS (g : Nat → Nat → SV) (k : Nat) (h : Nat → Nat → SV) : Nat → Nat → SV := fun a b => if a < k then g a b else if a = k then h 0 b else g (a - 1) b
theorem ins_rel {w : World} {rw : Nat → Prop} {s n k : Nat} {xs news : List Value} {g h : Nat → Nat → SV} (hs : 0 < s) (hk : k ≤ n) (hxl : xs.length = n * s) (hnl : news.length = s)
    (hrel : ∀ i j u, i < n → j < s → xs[i * s + j]? = some u → RelC w rw u (g i j)) (hnR : ∀ j u, news[j]? = some u → RelC w rw u (h 0 j)) {i j : Nat} {u : Value} (hi : i < n + 1) (hj : j < s)
    (hu : (xs.take (k * s) ++ news ++ xs.drop (k * s))[i * s + j]? = some u) : RelC w rw u (insS g k h i j) := by
  have hks : k * s ≤ n * s := Nat.mul_le_mul_right s hk
  have l0 : (xs.take (k * s)).length = k * s := by rw [List.length_take]; omega
  unfold insS
  rcases Nat.lt_trichotomy i k with hlt | rfl | hgt
  · rw [if_pos hlt]
    have h1 : (i + 1) * s ≤ k * s := Nat.mul_le_mul_right s hlt
    rw [Nat.add_mul] at h1
    rw [List.append_assoc, List.getElem?_append_left (by omega), List.getElem?_take_of_lt (by omega)] at hu
    exact hrel i j u (by omega) hj hu
  · rw [if_neg (by omega), if_pos rfl]
    rw [List.append_assoc, List.getElem?_append_right (by omega), l0, List.getElem?_append_left (by omega), show i * s + j - i * s = j by omega] at hu
    exact hnR j u hu
  · rw [if_neg (by omega), if_neg (by omega)]
    have h1 : (k + 1) * s ≤ i * s := Nat.mul_le_mul_right s hgt
    have h2 : i * s = (i - 1) * s + s := by rw [← Nat.succ_mul]; congr 1; omega
    rw [Nat.add_mul] at h1
    rw [List.getElem?_append_right (by rw [List.length_append, l0, hnl]; omega), List.length_append, l0, hnl, List.getElem?_drop] at hu
    rw [show k * s + (i * s + j - (k * s + s)) = (i - 1) * s + j by omega] at hu
    exact hrel (i - 1) j u (by omega) hj hu
section
variable {P : Program}
theorem wpList_copyR (w : World) {ops : Array Oper} {rest : List Oper} {o : Oper} {a : Act} {Q : Exit → Act → World → Prop} (hgd : o.guard = none) (d s : Operand) (t t' : TypeId)
    (ho : o.op = .call { callee := .builtin .copy, args := #[d, s], argTypes := #[t, t'] }) (v u : Value) (hd : a.eval d = v) (hs : a.eval s = u) {v' : Value} {w' : World}
    (hr : (Builtin.copy_ #[t, t'] o.type #[v, u]).run P w = .ok v' w') (h : wpList P ops Q rest (a.put o.dst v') w') : wpList P ops Q (o :: rest) a w :=
  wpList_plain hgd fun _ hK => wp_value (by
    simp only [execOp, ho, resolve, invoke, builtin, Sem.run_bind, Sem.run_pure, Result.andThen_ok, List.map_toArray, List.map_cons, List.map_nil, hd, hs, hr]) (hK _ _ h)
theorem wpList_appR (w : World) {ops : Array Oper} {rest : List Oper} {o : Oper} {a : Act} {Q : Exit → Act → World → Prop} (hgd : o.guard = none) (d s : Operand) (t t' : TypeId)
    (ho : o.op = .call { callee := .builtin .append, args := #[d, s], argTypes := #[t, t'] }) (v u : Value) (hd : a.eval d = v) (hs : a.eval s = u) {v' : Value} {w' : World}
    (hr : (Builtin.append_ #[t, t'] o.type #[v, u]).run P w = .ok v' w') (h : wpList P ops Q rest (a.put o.dst v') w') : wpList P ops Q (o :: rest) a w :=
  wpList_plain hgd fun _ hK => wp_value (by
    simp only [execOp, ho, resolve, invoke, builtin, Sem.run_bind, Sem.run_pure, Result.andThen_ok, List.map_toArray, List.map_cons, List.map_nil, hd, hs, hr]) (hK _ _ h)
theorem step_copyR {ops : Array Oper} {o : Oper} {a : Act} {w : World} {K : Act → World → Prop} {Q : Exit → Act → World → Prop} {E : Prop}
    (hg : o.guard = none) (d x : Operand) (dT sT : TypeId) (hop : o.op = Op.call { callee := Callee.builtin Builtin.copy, args := #[d, x], argTypes := #[dT, sT] })
    (v u : Value) (hd : a.eval d = v) (hx : a.eval x = u) {v' : Value} {w' : World} (hr : (Builtin.copy_ #[dT, sT] o.type #[v, u]).run P w = .ok v' w') (hK : K (a.put o.dst v') w') :
    if Region.wanted o (yielded ops a.tmps) = true then Oper.wp P o a w K Q else E := by
  have hw : Region.wanted o (yielded ops a.tmps) = true := by simp [Region.wanted, hg]
  rw [if_pos hw]
  exact wp_value (by simp only [execOp, hop, resolve, invoke, builtin, Sem.run_bind, Sem.run_pure, Result.andThen_ok, List.map_toArray, List.map_cons, List.map_nil, hd, hx, hr]) hK
theorem two_slices {a b : Option Addr} {la ca lb cb : Nat} (f : (a : Option Addr) → (la ca : Nat) → (b : Option Addr) → (lb cb : Nat) → Sem Value) (g : Array Value → Sem Value) :
    Extern.SlicesOverlaps.overlaps.match_4 (fun _ => Sem Value) #[.slice a la ca, .slice b lb cb] f g = f a la ca b lb cb := rfl
/-- Is a plain block beside another one: they are never one. -/
theorem apart_plain (w : World) (tS tR e : TypeId) (ht : P.underlying tS = some (.slice e)) (size : Nat) (hz : ∀ w, (Go.sizeOf e).run P w = .ok size w)
    (a b : Addr) (la ca lb cb : Nat) (hne : a.block ≠ b.block) {ca0 cb0 : Array Value} {ta tb : TypeId} {ma : Nat × Nat} (hA : w.heap[a.block]? = some (.cells ca0 ta ma)) (hA0 : 0 < ca0.size) (hB : w.heap[b.block]? = some (.cells cb0 tb (0, 0))) :
    (Extern.SlicesOverlaps.overlaps #[tS, tS] #[tR] #[.slice (some a) la ca, .slice (some b) lb cb]).run P w = .ok (.bool false) w := by
  have hnb : (a.block != b.block) = true := by simpa using hne
  have hnb' : (a.block == b.block) = false := by simpa using hne
  have hsa : w.shape? a.block = some (ta, ca0.size) := by unfold World.shape?; rw [hA]
  have hsb : w.shape? b.block = some (tb, cb0.size) := by unfold World.shape?; rw [hB]
  have hfb : ∀ x, w.frozen? ⟨b.block, x, none⟩ = false := fun x => by unfold World.frozen?; simp only [hB]; simp
  have hfb' : w.frozen? b = false := by unfold World.frozen?; simp only [hB]; simp
  obtain ⟨q, hq⟩ : ∃ q, ca0.size = q + 1 := ⟨ca0.size - 1, by omega⟩
  rw [hq] at hsa
  unfold Extern.SlicesOverlaps.overlaps
  rw [two_slices]
  by_cases h0 : la = 0 ∨ lb = 0 ∨ size = 0
  · simp [run_underlying ht, hz, h0]
  · cases hfa : w.frozen? a <;> cases hfe : w.frozen? { block := a.block, off := q + 1 } <;>
      simp [run_underlying ht, hz, h0, hnb, hnb', frozen, noView, viewAt, mayBeOne, stringish, shape, Sem.run, hsa, hsb, hfa, hfe, hfb, hfb']
end
end Go.Vd

set_option linter.unusedVariables false
set_option linter.unusedSimpArgs false
set_option maxRecDepth 100000
set_option maxHeartbeats 4000000
namespace Go.Proofs
open Go.RowKit Go.Lib Go.Vd
theorem insM_mid (w : World) (g0 n cap k : Nat) (cur : Array Value) (a : Addr) (c : Nat) (news : List Value) (hk : k < n) (hroom : n + 1 ≤ cap) (hcap : cap ≤ 9223372036854775807)
    (hg : isC w g0 cur 58 3) (hcs : cur.size = cap * 3) (hone : ∀ v ∈ cur.toList.take (n * 3), v.oneCell' = true) (hnl : news.length = 3) (hnc : ∀ j v, news[j]? = some v → w.cell? (a.add j) = some v) (hn1 : ∀ v ∈ news, v.oneCell' = true) (hne : a.block ≠ g0)
    (hov : ∀ lb cb, (callFunc 69 #[.slice (some a) 1 c, .slice (some ⟨g0, (k + 1) * 3, none⟩) lb cb]).run Try.prog w = .ok (.value (.bool false)) w) :
    Calls Try.prog 50 #[.slice (some ⟨g0, 0, none⟩) n cap, .int .i64 k, .slice (some a) 1 c] w fun e w' =>
      e = .returned (.slice (some ⟨g0, 0, none⟩) (n + 1) cap) ∧ ∃ cur2, isC w' g0 cur2 58 3 ∧ cur2.size = cur.size ∧ cur2.toList.take ((n + 1) * 3) = (cur.toList.take (n * 3)).take (k * 3) ++ news ++ (cur.toList.take (n * 3)).drop (k * 3) ∧ w.grownBy w' (some g0) := by
  obtain ⟨ii, dd, zz, hi, hd, hs, _⟩ := ty58_ok
  have his : ii.size = 3 := hs
  obtain ⟨cs1, hcs1⟩ : ∃ cs1, cs1 = (cur.toList.take (n * 3)).drop (k * 3) := ⟨_, rfl⟩
  have hl1 : cs1.length = (n - k) * 3 := by rw [hcs1, List.length_drop, List.length_take, Array.length_toList]; omega
  have hm1 : Nat.min (n + 1 - k) (n - k) = n - k := by simp only [Nat.min_def]; split <;> omega
  have hm2 : Nat.min 1 (n + 1 - k) = 1 := by simp only [Nat.min_def]; split <;> omega
  obtain ⟨cur1, hcur1⟩ : ∃ cur1, cur1 = (cur.toList.take ((k + 1) * 3) ++ cs1 ++ cur.toList.drop ((k + 1) * 3 + cs1.length)).toArray := ⟨_, rfl⟩
  have hz1 : cur1.size = cur.size := by
    rw [hcur1]
    simp only [List.size_toArray, List.length_append, List.length_take, List.length_drop, Array.length_toList]
    omega
  have hgd : isC w.drew g0 cur 58 3 := hg
  have hcp1 : ∀ ty dc sc, (Builtin.copy_ #[23, 23] ty #[.slice (some ⟨g0, (k + 1) * 3, none⟩) (n - k) dc, .slice (some ⟨g0, k * 3, none⟩) (n + 1 - k) sc]).run Try.prog w.drew = .ok (goInt (n - k : Nat)) (w.drew.setRow g0 cur1) := fun ty dc sc => by
    have h := run_copy_k (P := Try.prog) w.drew 23 23 ty 58 g0 ((k + 1) * 3) (n - k) dc 3 ⟨g0, k * 3, none⟩ (n + 1 - k) sc cur 58 cs1 Try.underlying23 hi his hgd (by rw [hm1]; exact hl1)
      (fun j v hj => by
        rw [Addr.add_lit, hgd.cell, ← Array.getElem?_toList]
        rw [hcs1, List.getElem?_drop, List.getElem?_take] at hj
        split at hj
        · exact hj
        · cases hj) (by omega) (fun v hv => hone v (List.mem_of_mem_drop (hcs1 ▸ hv)))
    rw [hm1, ← hcur1] at h
    exact h
  obtain ⟨W1, hW1⟩ : ∃ W1, W1 = w.drew.setRow g0 cur1 := ⟨_, rfl⟩
  have hg1 : isC W1 g0 cur1 58 3 := by rw [hW1]; exact hgd.set hz1
  have hoth : ∀ b, b ≠ g0 → W1.heap[b]? = w.heap[b]? := fun b hb => by
    rw [hW1]
    simp only [World.setRow, Array.getElem?_modify]
    rw [if_neg (fun e => hb e.symm)]
    rfl
  have hcella : ∀ j, W1.cell? (a.add j) = w.cell? (a.add j) := fun j => by
    have hb : (a.add j).block = a.block := block_add a j
    unfold World.cell?
    rw [hb, hoth _ hne]
  obtain ⟨cur2, hcur2⟩ : ∃ cur2, cur2 = (cur1.toList.take (k * 3) ++ news ++ cur1.toList.drop (k * 3 + news.length)).toArray := ⟨_, rfl⟩
  have hz2 : cur2.size = cur1.size := by
    rw [hcur2]
    simp only [List.size_toArray, List.length_append, List.length_take, List.length_drop, Array.length_toList]
    omega
  have hcp2 : ∀ ty dc, (Builtin.copy_ #[23, 23] ty #[.slice (some ⟨g0, k * 3, none⟩) (n + 1 - k) dc, .slice (some a) 1 c]).run Try.prog W1 = .ok (goInt (1 : Nat)) (W1.setRow g0 cur2) := fun ty dc => by
    have h := run_copy_k (P := Try.prog) W1 23 23 ty 58 g0 (k * 3) (n + 1 - k) dc 3 a 1 c cur1 58 news Try.underlying23 hi his hg1 (by rw [hm2]; omega)
      (fun j v hj => by rw [hcella]; exact hnc j v hj) (by omega) hn1
    rw [hm2, ← hcur2] at h
    exact h
  rw [← hW1] at hcp1
  have hfin : cur2.toList.take ((n + 1) * 3) = (cur.toList.take (n * 3)).take (k * 3) ++ news ++ (cur.toList.take (n * 3)).drop (k * 3) := by
    rw [hcur2, hcur1, hcs1, hnl, Nat.add_mul, Nat.add_mul, Nat.one_mul]
    simp only [List.toList_toArray]
    exact list_ins cur.toList news (k * 3) (n * 3) 3 (by omega) (by rw [Array.length_toList]; omega) hnl
  have hgrow : w.grownBy (W1.setRow g0 cur2) (some g0) := by
    refine ⟨?_, ?_, ?_, ?_, fun b hb hne2 => ?_⟩
    · rw [hW1]; rfl
    · rw [hW1]; rfl
    · rw [hW1]; rfl
    · rw [hW1]; simp [World.setRow]
    · simp only [World.setRow, Array.getElem?_modify]
      rw [if_neg (fun e => hne2 (by rw [e])), hoth b (fun e => hne2 (by rw [e]))]
  have hw1 : IntKind.i64.wrap ((k : Int) + 1) = (k : Int) + 1 := by rw [IntKind.wrap_i64]; omega
  have hb1 : (0 : Int) ≤ (k : Int) + 1 := by omega
  have hin : k ≤ n := by omega
  have htn : ((k : Int) + 1).toNat = k + 1 := by omega
  have hb2 : ¬ (cap = k + 1) := by omega
  have hb3 : (k : Int) ≤ (n : Int) + 1 := by omega
  have hb4 : ¬ (cap = k) := by omega
  clear hW1 hcur2 hcur1 hcs1
  go_enter Try.func50, Try.ntmps50
  go_wp2_with (simp only [hov])
  go_region_law (refine step_copyR rfl _ _ 23 23 rfl _ _ (by simp [Act.eval, Act.put]) (by simp [Act.eval, Act.put]) (hcp1 _ _ _) ?_)
  go_wp2_with (at_builtin; refine wpList_copyR _ rfl _ _ 23 23 rfl _ _ rfl rfl (hcp2 _ _) ?_)
  go_ret
  exact ⟨rfl, cur2, hg1.set hz2, hz2.trans hz1, hfin, hgrow⟩
theorem insM_grow (w : World) (g0 n k : Nat) (cur : Array Value) (a : Addr) (c : Nat) (news : List Value) (hk : k < n) (hn0 : n ≤ 1000000)
    (hg : isC w g0 cur 58 3) (hcs : cur.size = n * 3) (hone : ∀ v ∈ cur.toList.take (n * 3), v.oneCell' = true) (hnl : news.length = 3) (hnc : ∀ j v, news[j]? = some v → w.cell? (a.add j) = some v) (hn1 : ∀ v ∈ news, v.oneCell' = true) (hab : a.block < w.heap.size) :
    Calls Try.prog 50 #[.slice (some ⟨g0, 0, none⟩) n n, .int .i64 k, .slice (some a) 1 c] w fun e w' =>
      ∃ G cur2, e = .returned (.slice (some ⟨w.heap.size, 0, none⟩) (n + 1) G) ∧ n + 1 ≤ G ∧ G ≤ maxLen ∧ isC w' w.heap.size cur2 58 3 ∧ cur2.size = G * 3 ∧ cur2.toList.take ((n + 1) * 3) = (cur.toList.take (n * 3)).take (k * 3) ++ news ++ (cur.toList.take (n * 3)).drop (k * 3) ∧ w.grownBy w' none := by
  obtain ⟨ii, dd, zz, hi, hd, hs, _, _, _, hz0, _, _, hzs, _⟩ := ty58_ok
  have his : ii.size = 3 := hs
  have hib : ii.bytes ≤ 1000 := by
    have := hi.symm.trans (show Try.prog.info? 58 = some _ from rfl)
    simp only [Option.some.injEq] at this
    rw [this]
    decide
  rw [his] at hzs
  obtain ⟨xs, hxs⟩ : ∃ xs, xs = cur.toList.take (n * 3) := ⟨_, rfl⟩
  have hxl : xs.length = n * 3 := by rw [hxs, List.length_take, Array.length_toList]; omega
  have hcell : ∀ j v, xs[j]? = some v → w.cell? ⟨g0, j, none⟩ = some v := fun j v hj => by
    rw [hg.cell, ← Array.getElem?_toList]
    rw [hxs, List.getElem?_take] at hj
    split at hj
    · exact hj
    · cases hj
  have hg0 : g0 < w.heap.size := hg.lt
  rw [← hxs] at hone ⊢
  obtain ⟨G, hG⟩ : ∃ G, G = grownCap w (n + 1) n 58 := ⟨_, rfl⟩
  have hGn : n + 1 ≤ G := by rw [hG]; exact grownCap_ge w _ _ _
  have hGm : G ≤ maxLen := by rw [hG]; exact grownCap_le_maxLen w (n + 1) n 58 (by simp only [maxLen]; omega)
  have hG63 : G ≤ 9223372036854775807 := hGm
  have hold : (Builtin.firstCells ii.size k (.slice (some ⟨g0, 0, none⟩) k n)).run Try.prog w.drew = .ok (xs.take (k * 3)).toArray w.drew := by
    rw [his]
    exact run_firstCells_some w.drew 3 k ⟨g0, 0, none⟩ k n (xs.take (k * 3)) (by rw [List.length_take]; omega) (fun j v hj => by
      rw [Addr.add_lit, Nat.zero_add]
      rw [List.getElem?_take] at hj
      split at hj
      · exact hcell j v hj
      · cases hj)
  have hik : k + (n + 1 - k) = n + 1 := by omega
  have hkk : (n : Int) + 1 - (k : Int) = ((n + 1 - k : Nat) : Int) := by omega
  obtain ⟨ROW, hROW⟩ : ∃ ROW : Array Value, ROW = (xs.take (k * 3)).toArray ++ Builtin.zeroCells zz.cells (n + 1 - k) ++ Builtin.zeroCells zz.cells (G - (n + 1)) := ⟨_, rfl⟩
  have hrz : ∀ ty, (Builtin.append_ #[23, 3] ty #[.slice (some ⟨g0, 0, none⟩) k n, .int .i64 ((n : Int) + 1 - (k : Int))]).run Try.prog w =
      .ok (.slice (some ⟨w.heap.size, 0, none⟩) (n + 1) G) ((w.alloc (.cells ROW 58)).drew) := fun ty => by
    have h := Lib.run_append_grow_zeros w 23 3 ty 58 ii zz .i64 .i64 Try.underlying23 Try.underlying3 hi hz0 (some ⟨g0, 0, none⟩) k n (xs.take (k * 3)) hold (n + 1 - k) (by omega) (by omega) (by omega) (by omega)
      (Nat.le_trans (Nat.mul_le_mul (show n + 1 - k ≤ 1000001 by omega) hib) (by decide)) (by rw [hik]; exact growslice_fits (by omega) (Nat.le_trans (Nat.mul_le_mul (show n + 1 ≤ 1000001 by omega) hib) (by decide)))
    rw [hik, ← hG, ← hROW] at h
    rw [hkk]
    exact h
  have hRs : ROW.size = G * 3 := by
    rw [hROW]
    simp only [Array.size_append, List.size_toArray, List.length_take, size_zeroCells, hzs, hxl]
    omega
  obtain ⟨Z, hRZ⟩ : ∃ Z, ROW.toList = xs.take (k * 3) ++ Z := ⟨(Builtin.zeroCells zz.cells (n + 1 - k) ++ Builtin.zeroCells zz.cells (G - (n + 1))).toList, by rw [hROW]; simp⟩
  have hg1 : isC ((w.alloc (.cells ROW 58)).drew) w.heap.size ROW 58 3 := .of (heap_alloc_new w _)
  obtain ⟨row1, hrow1⟩ : ∃ row1, row1 = (ROW.toList.take (k * 3) ++ news ++ ROW.toList.drop (k * 3 + news.length)).toArray := ⟨_, rfl⟩
  have hz1 : row1.size = ROW.size := by
    rw [hrow1]
    simp only [List.size_toArray, List.length_append, List.length_take, List.length_drop, Array.length_toList]
    omega
  have hmA : Nat.min 1 (n + 1 - k) = 1 := by simp only [Nat.min_def]; split <;> omega
  have hcpA : ∀ ty dc, (Builtin.copy_ #[23, 23] ty #[.slice (some ⟨w.heap.size, k * 3, none⟩) (n + 1 - k) dc, .slice (some a) 1 c]).run Try.prog ((w.alloc (.cells ROW 58)).drew) = .ok (goInt (1 : Nat)) (((w.alloc (.cells ROW 58)).drew).setRow w.heap.size row1) := fun ty dc => by
    have h := run_copy_k (P := Try.prog) ((w.alloc (.cells ROW 58)).drew) 23 23 ty 58 w.heap.size (k * 3) (n + 1 - k) dc 3 a 1 c ROW 58 news Try.underlying23 hi his hg1 (by rw [hmA]; omega)
      (fun j v hj => by
        have h1 := hnc j v hj
        have hb : (a.add j).block = a.block := block_add a j
        unfold World.cell? at h1 ⊢
        rw [hb] at h1 ⊢
        rw [show ((w.alloc (.cells ROW 58)).drew).heap[a.block]? = w.heap[a.block]? from heap_alloc_old w _ hab]
        exact h1) (by omega) hn1
    rw [hmA, ← hrow1] at h
    exact h
  obtain ⟨W2, hW2⟩ : ∃ W2, W2 = ((w.alloc (.cells ROW 58)).drew).setRow w.heap.size row1 := ⟨_, rfl⟩
  have hg2 : isC W2.drew w.heap.size row1 58 3 := by
    have : isC W2 w.heap.size row1 58 3 := by rw [hW2]; exact hg1.set hz1
    exact this
  have hoth : ∀ b, b < w.heap.size → W2.heap[b]? = w.heap[b]? := fun b hb => by
    rw [hW2]
    simp only [World.setRow, Array.getElem?_modify]
    rw [if_neg (by omega)]
    exact heap_alloc_old w _ hb
  obtain ⟨row2, hrow2⟩ : ∃ row2, row2 = (row1.toList.take ((k + 1) * 3) ++ xs.drop (k * 3) ++ row1.toList.drop ((k + 1) * 3 + (xs.drop (k * 3)).length)).toArray := ⟨_, rfl⟩
  have hdl : (xs.drop (k * 3)).length = (n - k) * 3 := by rw [List.length_drop, hxl]; omega
  have hz2 : row2.size = row1.size := by
    rw [hrow2]
    simp only [List.size_toArray, List.length_append, List.length_take, List.length_drop, Array.length_toList]
    omega
  have hmB : Nat.min (n - k) (n - k) = n - k := Nat.min_self _
  have hcpB : ∀ ty dc sc, (Builtin.copy_ #[23, 23] ty #[.slice (some ⟨w.heap.size, (k + 1) * 3, none⟩) (n - k) dc, .slice (some ⟨g0, k * 3, none⟩) (n - k) sc]).run Try.prog W2.drew = .ok (goInt (n - k : Nat)) (W2.drew.setRow w.heap.size row2) := fun ty dc sc => by
    have h := run_copy_k (P := Try.prog) W2.drew 23 23 ty 58 w.heap.size ((k + 1) * 3) (n - k) dc 3 ⟨g0, k * 3, none⟩ (n - k) sc row1 58 (xs.drop (k * 3)) Try.underlying23 hi his hg2 (by rw [hmB]; exact hdl)
      (fun j v hj => by
        rw [List.getElem?_drop] at hj
        have h1 := hcell _ v hj
        rw [Addr.add_lit]
        unfold World.cell? at h1 ⊢
        rw [show W2.drew.heap[g0]? = w.heap[g0]? from hoth g0 hg0]
        exact h1) (by omega) (fun v hv => hone v (List.mem_of_mem_drop hv))
    rw [hmB, ← hrow2] at h
    exact h
  rw [← hW2] at hcpA
  have hfin : row2.toList.take ((n + 1) * 3) = xs.take (k * 3) ++ news ++ xs.drop (k * 3) := by
    rw [hrow2, hrow1, Nat.add_mul, Nat.add_mul, Nat.one_mul]
    simp only [List.toList_toArray]
    exact list_ins2 ROW.toList xs news (xs.drop (k * 3)) Z (k * 3) (n * 3) 3 (by omega) hxl hRZ (by rw [Array.length_toList]; omega) hnl rfl
  have hgrow : w.grownBy (W2.drew.setRow w.heap.size row2) none := by
    refine ⟨?_, ?_, ?_, ?_, fun b hb _ => ?_⟩
    · rw [hW2]; rfl
    · rw [hW2]; rfl
    · rw [hW2]; rfl
    · rw [hW2]
      show w.heap.size ≤ (Array.modify _ _ _).size
      rw [Array.size_modify]
      show w.heap.size ≤ (Array.modify _ _ _).size
      rw [Array.size_modify]
      exact Nat.le_of_lt hg1.lt
    · simp only [World.setRow, Array.getElem?_modify]
      rw [if_neg (by omega)]
      exact hoth b hb
  have hw1 : IntKind.i64.wrap ((k : Int) + 1) = (k : Int) + 1 := by rw [IntKind.wrap_i64]; omega
  have hb1 : (0 : Int) ≤ (k : Int) + 1 := by omega
  have hin : k ≤ n := by omega
  have htn : ((k : Int) + 1).toNat = k + 1 := by omega
  have hb2 : ¬ (G = k + 1) := by omega
  have hb3 : (k : Int) ≤ (n : Int) := by omega
  have hb4 : ¬ (n = k) := by omega
  have hb5 : ¬ (G = k) := by omega
  clear hkk hik hold hW2 hROW hG hrow1 hrow2 hRZ hdl hxl hcell
  go_enter Try.func50, Try.ntmps50
  go_wp2_with (first
    | (at_builtin; refine wpList_appR _ rfl _ _ 23 3 rfl _ _ rfl rfl (hrz _) ?_)
    | (at_builtin; refine wpList_copyR _ rfl _ _ 23 23 rfl _ _ rfl rfl (hcpA _ _) ?_))
  go_region_law (refine step_copyR rfl _ _ 23 23 rfl _ _ (by simp [Act.eval, Act.put]) (by simp [Act.eval, Act.put]) (hcpB _ _ _) ?_)
  go_wp2
  go_ret
  exact ⟨G, row2, rfl, hGn, hGm, hg2.set hz2, hz2.trans (hz1.trans hRs), hfin, hgrow⟩
theorem insM_end (w : World) (a0 : Option Addr) (n cap : Nat) (hnc : n ≤ cap) (hn0 : n ≤ 1000000) (a : Addr) (c : Nat) (v' : Value) (w' : World)
    (hrun : ∀ ty, (Builtin.append_ #[23, 23] ty #[.slice a0 n cap, .slice (some a) 1 c]).run Try.prog w = .ok v' w') :
    Calls Try.prog 50 #[.slice a0 n cap, .int .i64 n, .slice (some a) 1 c] w fun e W => e = .returned v' ∧ W = w' := by
  go_enter Try.func50, Try.ntmps50
  cases a0 with
  | none =>
    go_wp2_with (at_builtin; refine wpList_appR _ rfl _ _ 23 23 rfl _ _ rfl rfl (hrun _) ?_)
    all_goals (go_ret; exact ⟨rfl, rfl⟩)
  | some b =>
    obtain ⟨bb, bo, bs⟩ := b
    go_wp2_with (at_builtin; refine wpList_appR _ rfl _ _ 23 23 rfl _ _ rfl rfl (hrun _) ?_)
    all_goals (go_ret; exact ⟨rfl, rfl⟩)
/-- The row with one element more. -/
theorem insM_ok (gl : Nat → SV) (n : Nat) (g : Nat → Nat → SV) (i : Int) (h : Nat → Nat → SV) (hi0 : 0 ≤ i ∧ i ≤ (n : Int)) (hn0 : n ≤ 1000000) :
    GoodW Try.prog gl 50 58 3 n g [.int .i64 i, .slc 1 3 h] (n + 1) (insS g i.toNat h) := by
  intro w ρ rw N v vs xs hrw hgl hv hown hone hrel hargs
  obtain ⟨ii, dd, zz, hi, hd, hs, _, _, _, hz0, _, _, hzs, _⟩ := ty58_ok
  have his : ii.size = 3 := hs
  have hib : ii.bytes ≤ 1000 := by
    have := hi.symm.trans (show Try.prog.info? 58 = some _ from rfl)
    simp only [Option.some.injEq] at this
    rw [this]
    decide
  rw [his] at hzs
  match vs, hargs with
  | [v1, v2], ⟨r1, r2, _⟩ =>
    obtain ⟨k, hk⟩ : ∃ k : Nat, i = (k : Int) := ⟨i.toNat, by omega⟩
    subst hk
    have hkn : k ≤ n := by omega
    rw [Int.toNat_natCast]
    have e1 := r1.eq_int
    subst e1
    cases r2 with
    | slc ad _ c _ _ g2 hc1 hcc hca hcr =>
      obtain ⟨a, rfl, hsp⟩ := hca (by omega)
      obtain ⟨news, hnews⟩ : ∃ news, news = (List.range 3).map (g2 0) := ⟨_, rfl⟩
      have hnl : news.length = 3 := by rw [hnews]; simp
      have hnj : ∀ j u, news[j]? = some u → j < 3 ∧ u = g2 0 j := fun j u hj => by
        rw [hnews, getElem?_range_map] at hj
        split at hj
        · rename_i hlt; exact ⟨hlt, (Option.some.inj hj).symm⟩
        · cases hj
      have hnc : ∀ j u, news[j]? = some u → w.cell? (a.add j) = some u := fun j u hj => by
        obtain ⟨hlt, rfl⟩ := hnj j u hj
        obtain ⟨a', ea, q, _, _⟩ := hcc 0 j (by omega) hlt
        cases ea
        rw [Nat.zero_mul, Nat.zero_add] at q
        exact q
      have hn1 : ∀ u ∈ news, u.oneCell' = true := fun u hu => by
        obtain ⟨j, hj⟩ := List.mem_iff_getElem?.1 hu
        obtain ⟨hlt, rfl⟩ := hnj j u hj
        obtain ⟨a', ea, _, q, _⟩ := hcc 0 j (by omega) hlt
        exact q
      have hnr : ¬ rw a.block := by
        obtain ⟨a', ea, _, _, q⟩ := hcc 0 0 (by omega) (by omega)
        cases ea
        exact q
      have hnR : ∀ j u, news[j]? = some u → RelC w rw u (h 0 j) := fun j u hj => by
        obtain ⟨hlt, rfl⟩ := hnj j u hj
        exact hcr 0 j (by omega) hlt
      have hcell0 : w.cell? (a.add 0) = some (g2 0 0) := hnc 0 _ (by rw [hnews]; rfl)
      obtain ⟨ca0, ta, ma, hA, hA0⟩ : ∃ ca0 ta ma, w.heap[a.block]? = some (.cells ca0 ta ma) ∧ 0 < ca0.size := by
        have hb : (a.add 0).block = a.block := block_add a 0
        unfold World.cell? at hcell0
        rw [hb] at hcell0
        split at hcell0
        · rename_i c0 e0 m0 heq
          refine ⟨c0, e0, m0, heq, ?_⟩
          split at hcell0
          · cases hcell0
          · have := (Array.getElem?_eq_some_iff.1 hcell0).1
            omega
        · cases hcell0
      have hab : a.block < w.heap.size := (Array.getElem?_eq_some_iff.1 hA).1
      have fin : ∀ (w' : World) (v' : Value) (xs' : List Value), ownsR w' 58 3 v' (n + 1) xs' → xs' = xs.take (k * 3) ++ news ++ xs.drop (k * 3) → w.grownBy w' (blkNo v) → (∀ b, blkNo v' = some b → blkNo v = some b ∨ w.heap.size ≤ b) →
          ∃ v'' xs'', Ending.returned v' = .returned v'' ∧ ownsR w' 58 3 v'' (n + 1) xs'' ∧ (∀ u ∈ xs'', one u) ∧ w.grownBy w' (blkNo v) ∧ (∀ b, blkNo v'' = some b → blkNo v = some b ∨ w.heap.size ≤ b) ∧
            ∀ (rw' : Nat → Prop), (∀ b, b < w.heap.size → rw' b → rw b) → ∀ i j u, i < n + 1 → j < 3 → xs''[i * 3 + j]? = some u → RelC w' rw' u (insS g k h i j) := by
        intro w' v' xs' q1 q2 q3 q4
        have hkeep : Keep rw w w' := ⟨q3.os, q3.tape, q3.output, q3.size, fun b hb hr => q3.block b hb fun e => hr (hv b e.symm)⟩
        refine ⟨v', xs', rfl, q1, fun u hu => ?_, q3, q4, fun rw' hrw' i j u hi' hj hu => (ins_rel (s := 3) (by omega) hkn hown.1 hnl hrel hnR hi' hj (q2 ▸ hu)).mono hkeep hrw'⟩
        rw [q2] at hu
        rcases List.mem_append.1 hu with hu | hu
        · rcases List.mem_append.1 hu with hu | hu
          · exact hone u (List.mem_of_mem_take hu)
          · exact hn1 u hu
        · exact hone u (List.mem_of_mem_drop hu)
      rcases Nat.lt_or_ge k n with hlt | hge
      · have hown2 := hown
        rcases hown.2 with ⟨_, h0⟩ | ⟨g0, cap, cur, rfl, hc0, hC, hnc0, hcm, hcs, htk⟩
        · omega
        · have hne : a.block ≠ g0 := fun e => hnr (e ▸ hv g0 (blkNo_slice hc0))
          rcases Nat.lt_or_ge cap (n + 1) with hf | hroom
          · obtain rfl : cap = n := by omega
            refine (insM_grow w g0 cap k cur a c news hlt hn0 hC hcs (by rw [htk]; exact hone) hnl hnc hn1 hab).mono fun en w' hq => ?_
            obtain ⟨G, cur2, rfl, p1, p2, p3, p4, p5, p6⟩ := hq
            rw [htk] at p5
            refine fin w' _ _ ⟨?_, .inr ⟨w.heap.size, G, cur2, rfl, by omega, p3, p1, p2, p4, rfl⟩⟩ p5 ⟨p6.os, p6.tape, p6.output, p6.size, fun b hb _ => p6.block b hb (by simp)⟩ fun b hb => .inr ?_
            · rw [List.length_take, Array.length_toList, p4]
              have := Nat.mul_le_mul_right 3 p1
              omega
            · rw [blkNo_slice (by omega)] at hb
              simp only [Option.some.injEq] at hb
              omega
          · obtain ⟨mk, hh, hmk⟩ := hC
            have hplain : w.heap[g0]? = some (.cells cur 58 (0, 0)) := by
              rcases hmk with rfl | ⟨_, h1⟩
              · exact hh
              · exact absurd h1 (by decide)
            refine (insM_mid w g0 n cap k cur a c news hlt hroom hcm ⟨mk, hh, hmk⟩ hcs (by rw [htk]; exact hone) hnl hnc hn1 hne (fun lb cb => by
              rw [run_callFunc_extern Try.func69 (by kernel_rfl) (by kernel_rfl) (by kernel_rfl) (e := Extern.SlicesOverlaps.overlaps #[23, 23] #[4]) (by kernel_rfl),
                apart_plain w 23 4 58 Try.underlying23 3 (fun w => by simp [sizeOf, typeInfo, hi, his]) a ⟨g0, (k + 1) * 3, none⟩ 1 c lb cb hne hA hA0 hplain]
              rfl)).mono fun en w' hq => ?_
            obtain ⟨rfl, cur2, p1, p2, p3, p4⟩ := hq
            rw [htk] at p3
            refine fin w' _ _ ⟨?_, .inr ⟨g0, cap, cur2, rfl, hc0, p1, hroom, hcm, p2.trans hcs, rfl⟩⟩ p3 (by rw [blkNo_slice hc0]; exact p4) fun b hb => .inl ?_
            · rw [List.length_take, Array.length_toList, p2, hcs]
              have := Nat.mul_le_mul_right 3 hroom
              omega
            · rw [blkNo_slice hc0] at hb ⊢
              exact hb
      · obtain rfl : k = n := by omega
        obtain ⟨a0, cap, rfl, hcap⟩ : ∃ a0 cap, v = .slice a0 k cap ∧ k ≤ cap := by
          rcases hown.2 with ⟨⟨a0, rfl⟩, h0⟩ | ⟨g0, cap, cur, rfl, hc0, hC, hnc0, _⟩
          · exact ⟨a0, 0, by rw [h0], by omega⟩
          · exact ⟨_, cap, rfl, hnc0⟩
        have hall : ∀ ty, ∃ v' w', (Builtin.append_ #[23, 23] ty #[.slice a0 k cap, .slice (some a) 1 c]).run Try.prog w = .ok v' w' ∧ ownsR w' 58 3 v' (k + 1) (xs ++ news) ∧ w.grownBy w' (blkNo (.slice a0 k cap)) ∧
            (∀ b, blkNo v' = some b → blkNo (.slice a0 k cap) = some b ∨ w.heap.size ≤ b) := fun ty =>
          run_append_src (P := Try.prog) (ty := ty) Try.underlying23 hi hz0 his rfl hzs (by omega) hown (m := 1) (cp := c) (by omega) (fun _ => ⟨a, rfl, hnc⟩) hn1 (by omega) (Nat.le_trans (Nat.mul_le_mul (show k + 1 ≤ 1000001 by omega) hib) (by decide))
        obtain ⟨v', w', h1, h2, h3, h4⟩ := hall 0
        have hty : ∀ ty, (Builtin.append_ #[23, 23] ty #[.slice a0 k cap, .slice (some a) 1 c]).run Try.prog w = .ok v' w' := fun ty => h1
        refine (insM_end w a0 k cap hcap hn0 a c v' w' hty).mono fun en W hq => ?_
        obtain ⟨rfl, rfl⟩ := hq
        have hxl := hown.1
        exact fin W v' (xs ++ news) h2 (by rw [List.take_of_length_le (by omega), List.drop_of_length_le (by omega), List.append_nil]) h3 h4
end Go.Proofs

set_option linter.unusedVariables false
set_option linter.unusedSimpArgs false
set_option maxRecDepth 100000
set_option maxHeartbeats 8000000
namespace Go.Vd
open Go.Proofs
/-- The keys of timers, as a set. -/
def mmT (L : List Tm) : MM := L.map fun t => ((t.s, t.r), 1)
def hkT (L : List Tm) (s : Int) (r : List UInt8) : Bool := L.any fun t => decide (t.s = s ∧ t.r = r)
theorem hkT_iff {L : List Tm} {s : Int} {r : List UInt8} : hkT L s r = true ↔ ∃ t ∈ L, t.s = s ∧ t.r = r := by
  unfold hkT
  rw [List.any_eq_true]
  constructor
  · rintro ⟨t, h, h1⟩; exact ⟨t, h, of_decide_eq_true h1⟩
  · rintro ⟨t, h, h1⟩; exact ⟨t, h, decide_eq_true h1⟩
theorem hkT_no {L : List Tm} {t : Tm} : hkT L t.s t.r = false ↔ ∀ x ∈ L, unlT x t := by
  rw [← Bool.not_eq_true, hkT_iff]
  constructor
  · intro h x hx e; exact h ⟨x, hx, e⟩
  · rintro h ⟨x, hx, e⟩; exact h x hx e
theorem mm_get (s : Int) (r : List UInt8) : ∀ (L : List Tm), (mgetS (mmT L) s r != 0) = hkT L s r
  | [] => rfl
  | t :: L => by
    have ih := mm_get s r L
    unfold mmT hkT at *
    simp only [List.map_cons, mgetS, List.any_cons]
    by_cases h : (t.s, t.r) = (s, r)
    · rw [if_pos h]
      simp only [Prod.mk.injEq] at h
      simp [h]
    · rw [if_neg h, ih]
      simp only [Prod.mk.injEq] at h
      simp [h]
theorem mm_put {s : Int} {r : List UInt8} (u : Int) : ∀ {L : List Tm}, hkT L s r = false → mputS (mmT L) s r 1 = mmT (L ++ [⟨s, r, u⟩])
  | [], _ => rfl
  | t :: L, h => by
    unfold hkT at h
    rw [List.any_cons, Bool.or_eq_false_iff] at h
    have ih := mm_put u (L := L) h.2
    have h1 := of_decide_eq_false h.1
    have h2 : ¬(t.s, t.r) = (s, r) := fun e => h1 (by simpa using e)
    unfold mmT at *
    simp only [List.map_cons, mputS, List.cons_append]
    rw [if_neg h2, ih]
theorem mm_len (L : List Tm) : (mmT L).length = L.length := by unfold mmT; simp
def okN (n : Int) (I O : Sl) (k : Nat) : Prop := (∀ j, j < k → slotOk true n j (sl I j) ∧ slotOk false n j (sl O j)) ∧ unlQ (allN I O k)
/-- The first timers of a slot are right, behind others. -/
def slP (q : Bool) (n : Int) (i : Nat) (M L : List Tm) (k : Nat) : Prop := (∀ t ∈ L.take k, belI q t.u n (i : Int) = true) ∧ ascT (L.take k) ∧ unlQ (M ++ L.take k)
theorem slP_0 {q : Bool} {n : Int} {i : Nat} {M L : List Tm} (h : unlQ M) : slP q n i M L 0 := ⟨by simp, by simp [ascT], by simpa using h⟩
theorem slP_next {q : Bool} {n : Int} {i : Nat} {M L : List Tm} {k : Nat} (h : slP q n i M L k) (hk : k < L.length) {t : Tm} (ht : t = L.getD k T0) (h1 : belI q t.u n (i : Int) = true) (h2 : hkT (M ++ L.take k) t.s t.r = false) (h3 : 0 < k → ordT (L.getD (k - 1) T0) t < 0) : slP q n i M L (k + 1) := by
  have e : L.take (k + 1) = L.take k ++ [t] := by rw [ht, take_snoc hk]
  refine ⟨fun x hx => ?_, ?_, ?_⟩
  · rw [e] at hx
    rcases List.mem_append.1 hx with hx | hx
    · exact h.1 x hx
    · rw [List.mem_singleton.1 hx]; exact h1
  · rw [e]
    refine List.pairwise_append.2 ⟨h.2.1, List.pairwise_singleton .., fun a ha b hb => ?_⟩
    rw [List.mem_singleton.1 hb]
    rcases Nat.eq_zero_or_pos k with h0 | h0
    · subst h0; simp at ha
    · have h4 := ordT_lt.1 (h3 h0)
      obtain ⟨k', rfl⟩ : ∃ k', k = k' + 1 := ⟨k - 1, by omega⟩
      rw [Nat.add_sub_cancel] at h4
      have e2 : L.take (k' + 1) = L.take k' ++ [L.getD k' T0] := (take_snoc (by omega)).symm
      have h5 := h.2.1
      rw [e2] at ha
      unfold ascT at h5
      rw [e2] at h5
      rcases List.mem_append.1 ha with ha | ha
      · exact ltT_trans ((List.pairwise_append.1 h5).2.2 a ha _ (List.mem_singleton.2 rfl)) h4
      · rw [List.mem_singleton.1 ha]; exact h4
  · rw [e, ← List.append_assoc]
    refine List.pairwise_append.2 ⟨h.2.2, List.pairwise_singleton .., fun a ha b hb => ?_⟩
    rw [List.mem_singleton.1 hb]
    exact hkT_no.1 h2 a ha
theorem slP_all {q : Bool} {n : Int} {i : Nat} {M L : List Tm} (h : slP q n i M L L.length) : slotOk q n i L ∧ unlQ (M ++ L) := by
  unfold slP at h
  rw [List.take_length] at h
  exact ⟨⟨h.1, h.2.1⟩, h.2.2⟩
theorem mem_at {L : List Tm} {k : Nat} (hk : k < L.length) : L.getD k T0 ∈ L := by
  rw [List.getD_eq_getElem?_getD, List.getElem?_eq_getElem hk]; exact List.getElem_mem hk
theorem no_ord {q : Bool} {n : Int} {i k : Nat} {L : List Tm} (hk : k < L.length) (h0 : 0 < k) (h : ¬ordT (L.getD (k - 1) T0) (L.getD k T0) < 0) : ¬slotOk q n i L := fun hs => by
  have h2 := List.pairwise_iff_getElem.1 hs.2 (k - 1) k (by omega) hk (by omega)
  apply h
  rw [ordT_lt]
  simpa [List.getD_eq_getElem?_getD, hk, show k - 1 < L.length by omega] using h2
theorem no_key {M L : List Tm} {k : Nat} (hk : k < L.length) (h : hkT (M ++ L.take k) (L.getD k T0).s (L.getD k T0).r = true) : ¬unlQ (M ++ L) := fun hu => by
  obtain ⟨x, hx, e⟩ := hkT_iff.1 h
  have e2 : M ++ L = (M ++ L.take k) ++ (L.getD k T0 :: L.drop (k + 1)) := by
    have : L[k] = L.getD k T0 := by simp [List.getD_eq_getElem?_getD, hk]
    rw [List.append_assoc, ← this, ← List.drop_eq_getElem_cons hk, List.take_append_drop]
  rw [e2] at hu
  exact (List.pairwise_append.1 hu).2.2 x hx _ (List.mem_cons_self ..) e
theorem unl_sub {I O : Sl} {k : Nat} (h : k < 64) (hu : unlQ (allT I O)) : unlQ (allN I O k ++ sl I k) ∧ unlQ ((allN I O k ++ sl I k) ++ sl O k) := by
  have e : ∀ j, j ≤ 64 → (allN I O j).Sublist (allN I O 64) := fun j hj => by
    obtain ⟨d, hd⟩ : ∃ d, j + d = 64 := ⟨64 - j, by omega⟩
    rw [← hd]
    clear hj hd
    induction d with
    | zero => exact .refl _
    | succ d ih => exact ih.trans (List.sublist_append_left _ _)
  have h1 : unlQ (allN I O (k + 1)) := by rw [allT_eq] at hu; exact hu.sublist (e (k + 1) (by omega))
  have h2 : allN I O (k + 1) = (allN I O k ++ sl I k) ++ sl O k := by rw [List.append_assoc]; rfl
  rw [h2] at h1
  exact ⟨h1.sublist (List.sublist_append_left _ _), h1⟩
theorem wR_no {n m : Int} {I O : Sl} (h : ¬wOk n m I O) : wR n m I O = false := by
  cases hb : wR n m I O
  · rfl
  · exact absurd (wR_iff.1 hb) h
theorem okN_0 {n : Int} {I O : Sl} : okN n I O 0 := ⟨fun j hj => absurd hj (by omega), List.Pairwise.nil⟩
theorem okN_next {n : Int} {I O : Sl} {k : Nat} (h : okN n I O k) (h1 : slotOk true n k (sl I k)) (h2 : slotOk false n k (sl O k)) (hu : unlQ ((allN I O k ++ sl I k) ++ sl O k)) : okN n I O (k + 1) := by
  refine ⟨fun j hj => ?_, ?_⟩
  · rcases Nat.lt_or_ge j k with h3 | h3
    · exact h.1 j h3
    · obtain rfl : j = k := by omega
      exact ⟨h1, h2⟩
  · show unlQ (allN I O k ++ (sl I k ++ sl O k))
    rw [← List.append_assoc]; exact hu
theorem wR_end {n m : Int} {I O : Sl} (h : okN n I O 64) (hm : okRm m = true) : wR n m I O = decide (((allN I O 64).length : Int) ≤ m) := by
  rw [Bool.eq_iff_iff, wR_iff, decide_eq_true_eq, ← allT_eq]
  constructor
  · intro hw; exact hw.2.2.2
  · intro hl; exact ⟨hm, h.1, by rw [allT_eq]; exact h.2, hl⟩
theorem eta_T (t : Tm) : (⟨t.s, t.r, t.u⟩ : Tm) = t := rfl
theorem sl_good {q : Bool} {n : Int} {i k : Nat} {M L : List Tm} (hk : k < L.length) (h1 : slotOk q n i L) (h2 : unlQ (M ++ L)) : belI q (L.getD k T0).u n (i : Int) = true ∧ hkT (M ++ L.take k) (L.getD k T0).s (L.getD k T0).r = false ∧ (0 < k → ordT (L.getD (k - 1) T0) (L.getD k T0) < 0) := by
  refine ⟨h1.1 _ (mem_at hk), ?_, fun h0 => ?_⟩
  · cases h : hkT (M ++ L.take k) (L.getD k T0).s (L.getD k T0).r
    · rfl
    · exact absurd h2 (no_key hk h)
  · rcases Int.lt_or_le (ordT (L.getD (k - 1) T0) (L.getD k T0)) 0 with h | h
    · exact h
    · exact absurd h1 (no_ord hk h0 (by omega))
theorem wI {n m : Int} {I O : Sl} {i : Nat} (h : i < 64) (hw : wR n m I O = true) : slotOk true n i (sl I i) ∧ unlQ (allN I O i ++ sl I i) := by
  have := wR_iff.1 hw
  exact ⟨(this.2.1 i h).1, (unl_sub h this.2.2.1).1⟩
theorem wO {n m : Int} {I O : Sl} {i : Nat} (h : i < 64) (hw : wR n m I O = true) : slotOk false n i (sl O i) ∧ unlQ ((allN I O i ++ sl I i) ++ sl O i) := by
  have := wR_iff.1 hw
  exact ⟨(this.2.1 i h).2, (unl_sub h this.2.2.1).2⟩
noncomputable def iWr : Nat → Option Func := addI 39 Try.f39 (addI 37 Try.f37 (addI 38 Try.f38 noI))
theorem iWr_ok : InOk Try.prog iWr := addI_ok (addI_ok (addI_ok noI_ok Try.func38 (by kernel_rfl)) Try.func37 (by kernel_rfl)) Try.func39 (by kernel_rfl)
attribute [local irreducible] vc
theorem good_wRight (n m : Int) (I O : Sl) (hQ : whQ I O) (hn : 0 ≤ n) : GoodP Try.prog gl0 21 [whS std n m I O] (.bool (std.tb fun _ => wR n m I O)) := by
  refine fn_sound' (T := seatT) (G := gwb) (X := noX) seatT_ok gwb_ok noX_ok iWr_ok mixed Try.func21 (.one) (fun A => [whS A n m I O]) (fun A => .bool (A.tb fun _ => wR n m I O)) fun A hA => ?_
  cbv
  repeat' (first | with_reducible exact True.intro | with_reducible exact dr_ok hA (by kernel_rfl) | with_reducible exact eqv_refl hA _ | with_reducible refine And.intro ?_ ?_ | (intro hc; cbv))
  · subst hA
    simp only [sS] at *
    refine (wR_no fun hw => ?_).symm
    have h1 : okRm m = true := hw.1
    unfold okRm at h1
    rw [h1] at hc
    cases hc
  have hm : okRm m = true := by subst hA; simp only [sS] at hc; exact nb_t hc
  clear hc
  refine ⟨⟨{p : Nat × MM // p.1 ≤ 64 ∧ p.2 = mmT (allN I O p.1) ∧ okN n I O p.1}, fun b p => [(14, .int .i64 (p.1.1 : Nat))], fun b p => [(6, .kmap 74 true p.1.2)], fun p => 64 - p.1.1, true⟩, ⟨⟨(0, []), Nat.zero_le _, rfl, okN_0⟩, ?_⟩, ?_⟩
  · cbv
    subst hA
    simp [-List.getD_eq_getElem?_getD, sS]
  · rintro ⟨⟨i, S⟩, hx⟩
    have hi : i ≤ 64 := hx.1
    have hS : S = mmT (allN I O i) := hx.2.1
    have hok : okN n I O i := hx.2.2
    rcases Nat.lt_or_ge i 64 with hlt | hge
    · obtain ⟨i', hi'⟩ : ∃ i', i' = i + 1 := ⟨_, rfl⟩
      obtain ⟨M, hM⟩ : ∃ M, M = allN I O i := ⟨_, rfl⟩
      obtain ⟨L, hL⟩ : ∃ L, L = sl I i := ⟨_, rfl⟩
      obtain ⟨L', hL'⟩ : ∃ L', L' = sl O i := ⟨_, rfl⟩
      rw [← hM] at hS
      have e1 : I.getD i [] = L := hL.symm
      have e2 : O.getD i [] = L' := hL'.symm
      have hu0 : unlQ M := by rw [hM]; exact hok.2
      have hQL : ∀ t ∈ L, tmQ t := fun t ht => hQ.2.2 t (mem_all.2 ⟨i, hlt, .inl (hL ▸ ht)⟩)
      have hQL' : ∀ t ∈ L', tmQ t := fun t ht => hQ.2.2 t (mem_all.2 ⟨i, hlt, .inr (hL' ▸ ht)⟩)
      have hg1 : wR n m I O = true → slotOk true n i L ∧ unlQ (M ++ L) := fun hw => by rw [hL, hM]; exact wI hlt hw
      have hg2 : wR n m I O = true → slotOk false n i L' ∧ unlQ ((M ++ L) ++ L') := fun hw => by rw [hL', hL, hM]; exact wO hlt hw
      cbv
      repeat' (first | with_reducible exact True.intro | with_reducible exact dr_ok hA (by kernel_rfl) | with_reducible exact eqv_refl hA _ | with_reducible refine And.intro ?_ ?_ | (intro hc; cbv))
      all_goals first
        | (fail_if_success (refine Exists.intro ?_ ?_)
           subst hA
           simp only [sS, Int.ofNat_eq_natCast, Int.toNat_natCast, e1] at *
           first
             | exact ⟨by omega, by omega⟩
             | (exfalso; have := of_decide_eq_false hc; omega))
        | skip
      refine ⟨⟨{p : Nat × MM // p.1 ≤ L.length ∧ p.2 = mmT (M ++ L.take p.1) ∧ slP true n i M L p.1}, fun b p => [(20, .int .i64 (p.1.1 : Nat))], fun b p => [(6, .kmap 74 true p.1.2)], fun p => L.length - p.1.1, true⟩, ⟨⟨(0, S), Nat.zero_le _, by simpa using hS, slP_0 hu0⟩, ?_⟩, ?_⟩
      · cbv
        subst hA
        simp [-List.getD_eq_getElem?_getD, sS]
      · rintro ⟨⟨k, S2⟩, hy⟩
        have hk : k ≤ L.length := hy.1
        have hS2 : S2 = mmT (M ++ L.take k) := hy.2.1
        have hsl : slP true n i M L k := hy.2.2
        rcases Nat.lt_or_ge k L.length with hltk | hgek
        · obtain ⟨k', hk'⟩ : ∃ k', k' = k + 1 := ⟨_, rfl⟩
          obtain ⟨t, ht⟩ : ∃ t, t = L.getD k T0 := ⟨_, rfl⟩
          have hgt : L.getD k { s := 0, r := [], u := 0 } = t := ht.symm
          obtain ⟨t0, ht0⟩ : ∃ t0, t0 = L.getD (k - 1) T0 := ⟨_, rfl⟩
          have htQ : tmQ t := hQL t (ht ▸ mem_at hltk)
          have hLb : L.length ≤ 1000000 := by have h1 := wh_at hQ hlt; rw [← hL, ← hL'] at h1; omega
          have hk1 : IntKind.i64.wrap ((k : Int) - 1) = (k : Int) - 1 := w64 (by omega)
          have hgt0 : L.getD ((k : Int) - 1).toNat { s := 0, r := [], u := 0 } = t0 := by rw [ht0, show ((k : Int) - 1).toNat = k - 1 by omega]; rfl
          have hg : (mgetS S2 t.s t.r != 0) = hkT (M ++ L.take k) t.s t.r := by rw [hS2]; exact mm_get _ _ _
          obtain ⟨b1, hb1⟩ : ∃ b1, b1 = belI true t.u n (i : Int) := ⟨_, rfl⟩
          obtain ⟨b2, hb2⟩ : ∃ b2, b2 = hkT (M ++ L.take k) t.s t.r := ⟨_, rfl⟩
          have hgood : wR n m I O = true → b1 = true ∧ b2 = false ∧ (0 < k → ordT t0 t < 0) := fun hw => by
            rw [hb1, hb2, ht, ht0]; exact sl_good hltk (hg1 hw).1 (hg1 hw).2
          have hnext : b1 = true → b2 = false → (0 < k → ordT t0 t < 0) → slP true n i M L k' ∧ mputS S2 t.s t.r 1 = mmT (M ++ L.take k') := fun h1 h2 h3 => by
            rw [hb1] at h1
            rw [hb2] at h2
            rw [hk']
            refine ⟨slP_next hsl hltk ht h1 h2 (fun h => ht0 ▸ h3 h), ?_⟩
            rw [hS2, mm_put t.u h2, List.append_assoc, ← take_snoc hltk, ← ht]
          clear hg1 hg2 hQL hQL'
          cbv
          repeat' (first | with_reducible exact True.intro | with_reducible exact dr_ok hA (by kernel_rfl) | with_reducible exact eqv_refl hA _ | with_reducible refine And.intro ?_ ?_ | (intro hc; cbv))
          all_goals first
            | (exfalso
               subst hA
               clear hgood hnext
               simp only [sS, Int.ofNat_eq_natCast, Int.toNat_natCast, e1, hgt, ← hb1, ← hb2, hg] at *
               first
                 | (simp at *; done)
                 | (simp at *; omega))
            | (fail_if_success (refine Exists.intro ?_ ?_)
               subst hA
               simp only [sS, Int.ofNat_eq_natCast, Int.toNat_natCast, e1, hgt, hgt0, hk1, hg, ← hb1, ← hb2, eta_T] at *
               first
                 | done
                 | exact ⟨by omega, by omega⟩
                 | exact ⟨⟨trivial, trivial⟩, htQ, hn⟩
                 | assumption
                 | (intro h; have h2 : 0 < (k : Int) := by simpa using h
                    exact ⟨⟨h, h⟩, (show (0 : Int) ≤ ((k : Nat) : Int) - 1 by omega), (show ((k : Nat) : Int) - 1 < ((L.length : Nat) : Int) by omega)⟩)
                 | exact fun h => h
                 | exact fun h => ⟨h, h⟩
                 | (intro h; simp; done) | (intro h; simp at h; done) | (intro h; simp at h ⊢; exact h)
                 | (clear hgood hnext; cases b1 <;> (first | (simp at *; done) | (simp at *; omega)))
                 | (cases hw : wR n m I O
                    · rfl
                    · obtain ⟨q1, q2, q3⟩ := hgood hw
                      exfalso
                      clear hnext hgood
                      simp [q1, q2] at *
                      done)
                 | (cases hw : wR n m I O
                    · rfl
                    · obtain ⟨q1, q2, q3⟩ := hgood hw
                      exfalso
                      clear hnext hgood
                      simp [q1, q2] at *
                      omega)
                 | trace_state)
            | skip
          all_goals
            have hq : b1 = true ∧ b2 = false ∧ (0 < k → ordT t0 t < 0) := by
                subst hA
                clear hgood hnext
                simp only [sS, Int.ofNat_eq_natCast, Int.toNat_natCast, e1, hgt, hgt0, hk1, hg, ← hb1, ← hb2, eta_T] at *
                refine ⟨?_, ?_, fun h0 => ?_⟩
                · cases b1
                  · exfalso; simp at *; done
                  · rfl
                · cases b2
                  · rfl
                  · exfalso; cases b1 <;> simp at * <;> done
                · have h3 : decide (0 < (k : Int)) = true := decide_eq_true (by omega)
                  rw [h3] at hc
                  have h4 := of_decide_eq_false (p := 0 ≤ ordT t0 t) hc
                  omega
            obtain ⟨h1, h2⟩ := hnext hq.1 hq.2.1 hq.2.2
            obtain ⟨S4, hS4⟩ : ∃ S4, S4 = mputS S2 t.s t.r 1 := ⟨_, rfl⟩
            rw [← hS4] at h2
            refine ⟨⟨(k', S4), by show k' ≤ L.length; omega, h2, h1⟩, ?_, show L.length - k' < L.length - k by omega⟩
            cbv
            subst hA
            simp [-List.getD_eq_getElem?_getD, sS, e1, hgt, ← hS4]
            exact w_succ' hk' (by omega)
        · have hke : k = L.length := by omega
          rw [hke] at hsl hS2
          rw [List.take_length] at hS2
          obtain ⟨hso1, hun1⟩ := slP_all hsl
          cbv
          repeat' (first | with_reducible exact True.intro | with_reducible exact dr_ok hA (by kernel_rfl) | with_reducible exact eqv_refl hA _ | with_reducible refine And.intro ?_ ?_ | (intro hc; cbv))
          all_goals first
            | (exfalso
               subst hA
               clear hg1 hg2
               simp only [sS, Int.ofNat_eq_natCast, Int.toNat_natCast, e1] at *
               first
                 | (simp at *; done)
                 | (simp at *; omega))
            | (fail_if_success (refine Exists.intro ?_ ?_)
               subst hA
               clear hg1 hg2
               simp only [sS, Int.ofNat_eq_natCast, Int.toNat_natCast, e1] at *
               first
                 | done
                 | exact ⟨by omega, by omega⟩
                 | assumption
                 | exact fun h => h
                 | (intro h; simp; done) | (intro h; simp at h; done) | (intro h; simp at h ⊢; exact h)
                 | trace_state)
            | skip
          refine ⟨⟨{p : Nat × MM // p.1 ≤ L'.length ∧ p.2 = mmT ((M ++ L) ++ L'.take p.1) ∧ slP false n i (M ++ L) L' p.1}, fun b p => [(20, .int .i64 (p.1.1 : Nat))], fun b p => [(6, .kmap 74 true p.1.2)], fun p => L'.length - p.1.1, true⟩, ⟨⟨(0, S2), Nat.zero_le _, by simpa using hS2, slP_0 hun1⟩, ?_⟩, ?_⟩
          · cbv
            subst hA
            simp [-List.getD_eq_getElem?_getD, sS]
          · rintro ⟨⟨k, S3⟩, hy⟩
            have hk : k ≤ L'.length := hy.1
            have hS3 : S3 = mmT ((M ++ L) ++ L'.take k) := hy.2.1
            have hsl : slP false n i (M ++ L) L' k := hy.2.2
            rcases Nat.lt_or_ge k L'.length with hltk | hgek
            · obtain ⟨k', hk'⟩ : ∃ k', k' = k + 1 := ⟨_, rfl⟩
              obtain ⟨t, ht⟩ : ∃ t, t = L'.getD k T0 := ⟨_, rfl⟩
              have hgt : L'.getD k { s := 0, r := [], u := 0 } = t := ht.symm
              obtain ⟨t0, ht0⟩ : ∃ t0, t0 = L'.getD (k - 1) T0 := ⟨_, rfl⟩
              have htQ : tmQ t := hQL' t (ht ▸ mem_at hltk)
              have hLb : L'.length ≤ 1000000 := by have h1 := wh_at hQ hlt; rw [← hL, ← hL'] at h1; omega
              have hk1 : IntKind.i64.wrap ((k : Int) - 1) = (k : Int) - 1 := w64 (by omega)
              have hgt0 : L'.getD ((k : Int) - 1).toNat { s := 0, r := [], u := 0 } = t0 := by rw [ht0, show ((k : Int) - 1).toNat = k - 1 by omega]; rfl
              have hg : (mgetS S3 t.s t.r != 0) = hkT ((M ++ L) ++ L'.take k) t.s t.r := by rw [hS3]; exact mm_get _ _ _
              obtain ⟨b1, hb1⟩ : ∃ b1, b1 = belI false t.u n (i : Int) := ⟨_, rfl⟩
              obtain ⟨b2, hb2⟩ : ∃ b2, b2 = hkT ((M ++ L) ++ L'.take k) t.s t.r := ⟨_, rfl⟩
              have hgood : wR n m I O = true → b1 = true ∧ b2 = false ∧ (0 < k → ordT t0 t < 0) := fun hw => by
                rw [hb1, hb2, ht, ht0]; exact sl_good hltk (hg2 hw).1 (hg2 hw).2
              have hnext : b1 = true → b2 = false → (0 < k → ordT t0 t < 0) → slP false n i (M ++ L) L' k' ∧ mputS S3 t.s t.r 1 = mmT ((M ++ L) ++ L'.take k') := fun h1 h2 h3 => by
                rw [hb1] at h1
                rw [hb2] at h2
                rw [hk']
                refine ⟨slP_next hsl hltk ht h1 h2 (fun h => ht0 ▸ h3 h), ?_⟩
                rw [hS3, mm_put t.u h2, List.append_assoc, ← take_snoc hltk, ← ht]
              clear hg1 hg2 hQL hQL'
              cbv
              repeat' (first | with_reducible exact True.intro | with_reducible exact dr_ok hA (by kernel_rfl) | with_reducible exact eqv_refl hA _ | with_reducible refine And.intro ?_ ?_ | (intro hc; cbv))
              all_goals first
                | (exfalso
                   subst hA
                   clear hgood hnext
                   simp only [sS, Int.ofNat_eq_natCast, Int.toNat_natCast, e2, hgt, ← hb1, ← hb2, hg] at *
                   first
                     | (simp at *; done)
                     | (simp at *; omega))
                | (fail_if_success (refine Exists.intro ?_ ?_)
                   subst hA
                   simp only [sS, Int.ofNat_eq_natCast, Int.toNat_natCast, e2, hgt, hgt0, hk1, hg, ← hb1, ← hb2, eta_T] at *
                   first
                     | done
                     | exact ⟨by omega, by omega⟩
                     | exact ⟨⟨trivial, trivial⟩, htQ, hn⟩
                     | assumption
                     | (intro h; have h2 : 0 < (k : Int) := by simpa using h
                        exact ⟨⟨h, h⟩, (show (0 : Int) ≤ ((k : Nat) : Int) - 1 by omega), (show ((k : Nat) : Int) - 1 < ((L'.length : Nat) : Int) by omega)⟩)
                     | exact fun h => h
                     | exact fun h => ⟨h, h⟩
                     | (intro h; simp; done) | (intro h; simp at h; done) | (intro h; simp at h ⊢; exact h)
                     | (clear hgood hnext; cases b1 <;> (first | (simp at *; done) | (simp at *; omega)))
                     | (cases hw : wR n m I O
                        · rfl
                        · obtain ⟨q1, q2, q3⟩ := hgood hw
                          exfalso
                          clear hnext hgood
                          simp [q1, q2] at *
                          done)
                     | (cases hw : wR n m I O
                        · rfl
                        · obtain ⟨q1, q2, q3⟩ := hgood hw
                          exfalso
                          clear hnext hgood
                          simp [q1, q2] at *
                          omega)
                     | trace_state)
                | skip
              all_goals
                have hq : b1 = true ∧ b2 = false ∧ (0 < k → ordT t0 t < 0) := by
                    subst hA
                    clear hgood hnext
                    simp only [sS, Int.ofNat_eq_natCast, Int.toNat_natCast, e2, hgt, hgt0, hk1, hg, ← hb1, ← hb2, eta_T] at *
                    refine ⟨?_, ?_, fun h0 => ?_⟩
                    · cases b1
                      · exfalso; simp at *; done
                      · rfl
                    · cases b2
                      · rfl
                      · exfalso; cases b1 <;> simp at * <;> done
                    · have h3 : decide (0 < (k : Int)) = true := decide_eq_true (by omega)
                      rw [h3] at hc
                      have h4 := of_decide_eq_false (p := 0 ≤ ordT t0 t) hc
                      omega
                obtain ⟨h1, h2⟩ := hnext hq.1 hq.2.1 hq.2.2
                obtain ⟨S4, hS4⟩ : ∃ S4, S4 = mputS S3 t.s t.r 1 := ⟨_, rfl⟩
                rw [← hS4] at h2
                refine ⟨⟨(k', S4), by show k' ≤ L'.length; omega, h2, h1⟩, ?_, show L'.length - k' < L'.length - k by omega⟩
                cbv
                subst hA
                simp [-List.getD_eq_getElem?_getD, sS, e2, hgt, ← hS4]
                exact w_succ' hk' (by omega)
            · have hke : k = L'.length := by omega
              rw [hke] at hsl hS3
              rw [List.take_length] at hS3
              obtain ⟨hso2, hun2⟩ := slP_all hsl
              cbv
              repeat' (first | with_reducible exact True.intro | with_reducible exact dr_ok hA (by kernel_rfl) | with_reducible exact eqv_refl hA _ | with_reducible refine And.intro ?_ ?_ | (intro hc; cbv))
              all_goals first
                | (exfalso
                   subst hA
                   clear hg1 hg2
                   simp only [sS, Int.ofNat_eq_natCast, Int.toNat_natCast, e2] at *
                   first
                     | (simp at *; done)
                     | (simp at *; omega))
                | (fail_if_success (refine Exists.intro ?_ ?_)
                   subst hA
                   clear hg1 hg2
                   simp only [sS, Int.ofNat_eq_natCast, Int.toNat_natCast, e2] at *
                   first
                     | done
                     | exact ⟨by omega, by omega⟩
                     | assumption
                     | exact fun h => h
                     | (intro h; simp; done) | (intro h; simp at h; done) | (intro h; simp at h ⊢; exact h)
                     | trace_state)
                | skip
              have hfin : okN n I O i' := by rw [hi']; exact okN_next hok (hL ▸ hso1) (hL' ▸ hso2) (by rw [← hM, ← hL, ← hL']; exact hun2)
              have hSf : S3 = mmT (allN I O i') := by rw [hS3, hi']; show _ = mmT (allN I O i ++ (sl I i ++ sl O i)); rw [← hM, ← hL, ← hL', List.append_assoc]
              refine ⟨⟨(i', S3), by show i' ≤ 64; omega, hSf, hfin⟩, ?_, show 64 - i' < 64 - i by omega⟩
              cbv
              subst hA
              simp [-List.getD_eq_getElem?_getD, sS]
              exact w_succ' hi' (by omega)

    · have hie : i = 64 := by omega
      subst hie
      have hwe := wR_end hok hm
      have hSl : (S.length : Int) = ((allN I O 64).length : Int) := by rw [hS, mm_len]
      cbv
      repeat' (first | with_reducible exact True.intro | with_reducible exact dr_ok hA (by kernel_rfl) | with_reducible exact eqv_refl hA _ | with_reducible refine And.intro ?_ ?_ | (intro hc; cbv))
      all_goals first
        | (exfalso
           subst hA
           simp only [sS, Int.ofNat_eq_natCast, Int.toNat_natCast] at *
           have hq : decide ((64 : Int) < 64) = true := by assumption
           have := of_decide_eq_true hq
           omega)
        | (subst hA
           simp only [sS, hSl]
           exact hwe.symm)
        | trace_state
noncomputable def c_wRight : Ct := fun A args => match args with
  | [.agg [.int .u64 n, .int .i64 m, .run 64 f, .run 64 g]] => some (some (A.tp fun _ => ((isRow eTs [] 1 64 f ∧ isRow eTs [] 1 64 g) ∧ whQ (lstOf eTs [] 1 64 f) (lstOf eTs [] 1 64 g)) ∧ 0 ≤ n), .bool (A.tb fun _ => wR n m (lstOf eTs [] 1 64 f) (lstOf eTs [] 1 64 g)))
  | _ => none
noncomputable def gwc : Ar → Pu := addC 21 c_wRight (gwb)
theorem gwc_ok : PuOk Try.prog gl0 (gwc std) := by
  refine addC_ok (gwb_ok) ⟨_, Try.func21, rfl, by decide⟩ ?_
  · intro args p r h hp
    unfold c_wRight at h
    split at h <;> cases h
    exact good_sv (good_wRight _ _ _ _ hp.1.2 hp.2) ⟨whS_sv hp.1.1.1 hp.1.1.2, trivial⟩
end Go.Vd

set_option linter.unusedVariables false
set_option linter.unusedSimpArgs false
set_option maxRecDepth 100000
set_option maxHeartbeats 8000000
namespace Go.Vd
open Go.Proofs
/-- The tick of the first timer of a key; 0, if there is none. -/
def fdT : List Tm → Int → List UInt8 → Int
  | [], _, _ => 0
  | t :: L, s, r => if t.s = s ∧ t.r = r then t.u else fdT L s r
theorem fd_no {s : Int} {r : List UInt8} : ∀ {L : List Tm}, hkT L s r = false → fdT L s r = 0
  | [], _ => rfl
  | t :: L, h => by
    unfold hkT at h
    rw [List.any_cons, Bool.or_eq_false_iff] at h
    unfold fdT
    rw [if_neg (of_decide_eq_false h.1)]
    exact fd_no h.2
theorem fd_at {s : Int} {r : List UInt8} : ∀ {L : List Tm} {i : Nat}, hkT (L.take i) s r = false → i < L.length → (L.getD i T0).s = s → (L.getD i T0).r = r → fdT L s r = (L.getD i T0).u ∧ hkT L s r = true
  | [], i, _, h, _, _ => by simp at h
  | t :: L, 0, _, _, h1, h2 => by
    simp only [List.getD_cons_zero] at h1 h2 ⊢
    unfold fdT hkT
    rw [if_pos ⟨h1, h2⟩, List.any_cons]
    simp [h1, h2]
  | t :: L, i + 1, h, hi, h1, h2 => by
    simp only [List.getD_cons_succ] at h1 h2 ⊢
    unfold hkT at h
    rw [List.take_succ_cons, List.any_cons, Bool.or_eq_false_iff] at h
    have := fd_at (L := L) (i := i) h.2 (by simpa using hi) h1 h2
    unfold fdT
    rw [if_neg (of_decide_eq_false h.1)]
    refine ⟨this.1, ?_⟩
    have h3 := this.2
    unfold hkT at h3 ⊢
    rw [List.any_cons, h3, Bool.or_true]
theorem hk_snoc {L : List Tm} {s : Int} {r : List UInt8} {i : Nat} (h : hkT (L.take i) s r = false) (hi : i < L.length) (hn : ¬((L.getD i T0).s = s ∧ (L.getD i T0).r = r)) : hkT (L.take (i + 1)) s r = false := by
  unfold hkT at *
  rw [← take_snoc (d := T0) hi, List.any_append, h, List.any_cons, decide_eq_false hn]
  rfl
attribute [local irreducible] vc
theorem good_wfind (n m s : Int) (I O : Sl) (r : List UInt8) (hQ : whQ I O) : GoodP Try.prog gl0 30 [whS std n m I O, sKey std s r] (.tup [.int .u64 (std.ti fun _ => fdT (allT I O) s r), .bool (std.tb fun _ => hkT (allT I O) s r)]) := by
  refine fn_sound' (T := seatT) (G := gwc) (X := noX) seatT_ok gwc_ok noX_ok noI_ok mixed Try.func30 (.one) (fun A => [whS A n m I O, sKey A s r]) (fun A => .tup [.int .u64 (A.ti fun _ => fdT (allT I O) s r), .bool (A.tb fun _ => hkT (allT I O) s r)]) fun A hA => ?_
  obtain ⟨L, hL⟩ : ∃ L, L = allT I O := ⟨_, rfl⟩
  have hLl : L.length ≤ 100000 := by rw [hL]; exact hQ.2.1
  rw [← hL]
  cbv
  repeat' (first | with_reducible exact True.intro | with_reducible exact dr_ok hA (by kernel_rfl) | with_reducible exact eqv_refl hA _ | with_reducible refine And.intro ?_ ?_ | (intro hc; cbv))
  · subst hA; simp only [sS, isRow_X64 hQ.1.1, isRow_X64 hQ.1.2, lstOf_X64 hQ.1.1, lstOf_X64 hQ.1.2] at *; exact ⟨⟨trivial, trivial⟩, hQ⟩
  refine ⟨⟨{i : Nat // i ≤ L.length ∧ hkT (L.take i) s r = false}, fun b i => [(9, rowS eT T0 3 A fun _ => L), (10, .int .i64 (A.ofNat (A.tn fun _ => L.length))), (11, .int .i64 (i.1 : Nat))], fun b i => [], fun i => L.length - i.1, true⟩, ⟨⟨0, Nat.zero_le _, rfl⟩, ?_⟩, ?_⟩
  · cbv
    subst hA
    simp [-List.getD_eq_getElem?_getD, sS, lstOf_X64 hQ.1.1, lstOf_X64 hQ.1.2, hL]
  · rintro ⟨i, hx⟩
    have hi : i ≤ L.length := hx.1
    have hh := hx.2
    rcases Nat.lt_or_ge i L.length with hlt | hge
    · obtain ⟨i', hi'⟩ : ∃ i', i' = i + 1 := ⟨_, rfl⟩
      obtain ⟨t, ht⟩ : ∃ t, t = L.getD i T0 := ⟨_, rfl⟩
      have hgt : L.getD i { s := 0, r := [], u := 0 } = t := ht.symm
      have hyes : t.s = s → t.r = r → fdT L s r = t.u ∧ hkT L s r = true := fun h1 h2 => by rw [ht] at h1 h2 ⊢; exact fd_at hh hlt h1 h2
      have hno : ¬(t.s = s ∧ t.r = r) → hkT (L.take i') s r = false := fun h => by rw [ht] at h; rw [hi']; exact hk_snoc hh hlt h
      cbv
      repeat' (first | with_reducible exact True.intro | with_reducible exact dr_ok hA (by kernel_rfl) | with_reducible exact eqv_refl hA _ | with_reducible refine And.intro ?_ ?_ | (intro hc; cbv))
      all_goals first
        | (exfalso
           subst hA
           simp only [sS, Int.ofNat_eq_natCast, Int.toNat_natCast] at *
           have := of_decide_eq_false hc
           omega)
        | (fail_if_success (refine Exists.intro ?_ ?_)
           subst hA
           simp only [sS, Int.ofNat_eq_natCast, Int.toNat_natCast, hgt] at *
           first
             | exact ⟨by omega, by omega⟩
             | (simp at hc
                have := hyes hc.1 hc.2
                first
                  | exact this.1.symm
                  | exact this.2.symm))
        | (have hn : ¬(t.s = s ∧ t.r = r) := by
             subst hA
             simp only [sS, Int.ofNat_eq_natCast, Int.toNat_natCast, hgt] at *
             simp at hc
             exact fun h => hc h.1 h.2
           refine ⟨⟨i', by omega, hno hn⟩, ?_, show L.length - i' < L.length - i by omega⟩
           cbv
           subst hA
           simp [-List.getD_eq_getElem?_getD, sS]
           exact w_succ' hi' (by omega))
        | trace_state
    · have hie : i = L.length := by omega
      rw [hie, List.take_length] at hh
      have h0 := fd_no hh
      cbv
      repeat' (first | with_reducible exact True.intro | with_reducible exact dr_ok hA (by kernel_rfl) | with_reducible exact eqv_refl hA _ | with_reducible refine And.intro ?_ ?_ | (intro hc; cbv))
      all_goals first
        | (exfalso
           subst hA
           simp only [sS, Int.ofNat_eq_natCast, Int.toNat_natCast] at *
           have hq : decide ((i : Int) < (L.length : Int)) = true := by assumption
           have := of_decide_eq_true hq
           omega)
        | (subst hA; simp only [sS, h0, hh]; done)
        | trace_state
noncomputable def c_wfind : Ct := fun A args => match args with
  | [.agg [.int .u64 n, .int .i64 m, .run 64 f, .run 64 g], .agg [.int .u32 s, .str r]] => some (some (A.tp fun _ => (isRow eTs [] 1 64 f ∧ isRow eTs [] 1 64 g) ∧ whQ (lstOf eTs [] 1 64 f) (lstOf eTs [] 1 64 g)), .tup [.int .u64 (A.ti fun _ => fdT (allT (lstOf eTs [] 1 64 f) (lstOf eTs [] 1 64 g)) s r), .bool (A.tb fun _ => hkT (allT (lstOf eTs [] 1 64 f) (lstOf eTs [] 1 64 g)) s r)])
  | _ => none
noncomputable def gwd : Ar → Pu := addC 30 c_wfind (gwc)
theorem gwd_ok : PuOk Try.prog gl0 (gwd std) := by
  refine addC_ok (gwc_ok) ⟨_, Try.func30, rfl, by decide⟩ ?_
  · intro args p r h hp
    unfold c_wfind at h
    split at h <;> cases h
    exact good_sv (good_wfind _ _ _ _ _ _ hp.2) ⟨whS_sv hp.1.1 hp.1.2, ⟨_, rfl, rfl, rfl, trivial⟩, trivial⟩
/-! ### The reference's lists -/
theorem good_rInsertT (L : List Tm) (s u : Int) (r : List UInt8) (hL : L.length ≤ 1000000) : GoodP Try.prog gl0 31 [rowS eT T0 3 std fun _ => L, .agg [.int .u32 s, .str r, .int .u64 u]] (rowS eT T0 3 std fun _ => insT L ⟨s, r, u⟩) := by
  refine fn_sound' (T := seatT) (G := gwd) (X := noX) seatT_ok gwd_ok noX_ok noI_ok mixed Try.func31 (.none) (fun A => [rowS eT T0 3 A fun _ => L, .agg [.int .u32 s, .str r, .int .u64 u]]) (fun A => rowS eT T0 3 A fun _ => insT L ⟨s, r, u⟩) fun A hA => ?_
  obtain ⟨x, hxe⟩ : ∃ x : Tm, x = ⟨s, r, u⟩ := ⟨_, rfl⟩
  rw [← hxe]
  cbv
  repeat' (first | with_reducible exact True.intro | with_reducible exact dr_ok hA (by kernel_rfl) | with_reducible exact eqv_refl hA _ | with_reducible refine And.intro ?_ ?_ | (intro hc; cbv))
  refine ⟨⟨{p : Nat × List Tm // p.1 ≤ L.length ∧ p.2 = L.take p.1 ∧ ∀ k, k < p.1 → lessT x (L.getD k T0) = false}, fun b p => [(5, .own b), (6, .int .i64 (p.1.1 : Nat))], fun b p => [(b, .row 58 3 (A.tn fun _ => p.1.2.length) (rowF eT T0 A fun _ => p.1.2))], fun p => L.length - p.1.1, true⟩, ⟨⟨(0, []), Nat.zero_le _, rfl, fun k hk => absurd hk (by omega)⟩, ?_⟩, ?_⟩
  · cbv
    subst hA
    simp [-List.getD_eq_getElem?_getD, sS]
  · rintro ⟨⟨j, P⟩, hy⟩
    have hj : j ≤ L.length := hy.1
    have hP : P = L.take j := hy.2.1
    have hPl : P.length = j := by rw [hP, List.length_take]; omega
    have hles := hy.2.2
    obtain ⟨y, hye⟩ : ∃ y, y = L.getD j T0 := ⟨_, rfl⟩
    have hgy : L.getD j { s := 0, r := [], u := 0 } = y := hye.symm
    obtain ⟨b, hb⟩ : ∃ b, b = lessT x y := ⟨_, rfl⟩
    have hb2 : lessT { s := s, r := r, u := u } y = b := by rw [← hxe, hb]
    obtain ⟨j', hj'⟩ : ∃ j', j' = j + 1 := ⟨_, rfl⟩
    obtain ⟨P', hP'⟩ : ∃ P', P' = P ++ [y] := ⟨_, rfl⟩
    have hgo : j < L.length → b = false → P' = L.take j' ∧ ∀ k, k < j' → lessT x (L.getD k T0) = false := fun h1 h2 => by
      refine ⟨by rw [hP', hP, hye, hj', take_snoc h1], fun k hk => ?_⟩
      rcases Nat.lt_or_ge k j with h | h
      · exact hles k h
      · obtain rfl : k = j := by omega
        rw [← hye, ← hb, h2]
    have hend : (j < L.length → b = true) → insT L x = P ++ [x] ++ L.drop j := fun h => by
      rw [insT_at hj hles (fun h2 => by rw [← hye, ← hb]; exact h h2), hP, List.append_assoc]
      rfl
    have hil := insT_len L x
    have hcx : ∀ q, q < 3 → Ceq (getAt [SV.int .u32 s, SV.str r, SV.int .u64 u] q) (getAt (eT std fun _ => x) q) := by rw [hxe]; exact cell_eT ⟨s, r, u⟩
    cbv
    repeat' (first | with_reducible exact True.intro | with_reducible exact dr_ok hA (by kernel_rfl) | with_reducible exact eqv_refl hA _ | with_reducible refine And.intro ?_ ?_ | (intro hc; cbv))
    all_goals first
      | (fail_if_success (refine Exists.intro ?_ ?_)
         subst hA
         simp only [sS, Int.ofNat_eq_natCast, Int.toNat_natCast, hgy, eta_T, hb2] at *
         first
           | done
           | exact fun h => h
           | exact fun h => ⟨h, h⟩
           | (intro h; have h2 : j < L.length := by simpa using h
              first
                | exact ⟨⟨h, h⟩, (show (0 : Int) ≤ ((j : Nat) : Int) by omega), (show ((j : Nat) : Int) < ((L.length : Nat) : Int) by omega)⟩
                | exact ⟨h, h⟩)
           | (intro h; rw [h]; rfl)
           | (have h2 : j < L.length := by
                rcases Nat.lt_or_ge j L.length with h | h
                · exact h
                · rw [decide_eq_false (by omega)] at hc; cases hc
              first
                | exact ⟨(show (0 : Int) ≤ ((j : Nat) : Int) by omega), (show ((j : Nat) : Int) < ((L.length : Nat) : Int) by omega)⟩
                | exact ⟨by omega, by omega⟩)
           | exact ⟨by omega, by omega⟩
           | (have h3 : j < L.length → b = true := fun h => by
                rw [decide_eq_true (show (j : Int) < (L.length : Int) by omega)] at hc
                cases b
                · cases hc
                · rfl
              first
                | (rw [hend h3]; simp; omega)
                | exact eqr_of (((Reps.lit P).cat (Reps.one hcx)).cat ((Reps.lit L).shift' j (by omega))) (by rw [hil, hPl]; omega) (hend h3).symm)
           | trace_state)
      | (have hq : j < L.length ∧ b = false := by
           subst hA
           clear hgo hend hles
           simp only [sS, Int.ofNat_eq_natCast, Int.toNat_natCast, hgy, eta_T, hb2] at *
           rcases Nat.lt_or_ge j L.length with h | h
           · rw [decide_eq_true (show (j : Int) < (L.length : Int) by omega)] at hc
             refine ⟨h, ?_⟩
             cases b
             · rfl
             · cases hc
           · rw [decide_eq_false (by omega)] at hc; cases hc
         obtain ⟨h1, h2⟩ := hgo hq.1 hq.2
         refine ⟨⟨(j', P'), by show j' ≤ L.length; omega, h1, h2⟩, ?_, show L.length - j' < L.length - j by omega⟩
         cbv
         subst hA
         simp [-List.getD_eq_getElem?_getD, sS, hgy]
         exact ⟨w_succ' hj' (by omega), by rw [hP']; simp, eqr_of ((Reps.lit P).cat (Reps.one (cell_eT y))) (by rw [hP']; simp) hP'.symm⟩)
      | trace_state
noncomputable def c_rInsertT : Ct := fun A args => match args with
  | [.slc n 3 f, .agg [.int .u32 s, .str r, .int .u64 u]] => some (some (A.tp fun _ => isRow eT T0 3 n f ∧ n ≤ 1000000), rowS eT T0 3 A fun _ => insT (lstOf eT T0 3 n f) ⟨s, r, u⟩)
  | _ => none
noncomputable def gwe : Ar → Pu := addC 31 c_rInsertT (gwd)
theorem gwe_ok : PuOk Try.prog gl0 (gwe std) := by
  refine addC_ok (gwd_ok) ⟨_, Try.func31, rfl, by decide⟩ ?_
  · intro args p r h hp
    unfold c_rInsertT at h
    split at h <;> cases h
    exact good_sv (good_rInsertT _ _ _ _ (by rw [lstOf_length hp.1]; exact hp.2)) ⟨hp.1.sv, ⟨_, rfl, rfl, rfl, rfl, trivial⟩, trivial⟩
@[irreducible] def eqT (L M : List Tm) : Bool := decide (L = M)
theorem eqT_iff {L M : List Tm} : eqT L M = true ↔ L = M := by unfold eqT; exact decide_eq_true_iff
theorem eqT_no {L M : List Tm} (h : ¬L = M) : eqT L M = false := by unfold eqT; exact decide_eq_false h
theorem good_rtimers (L M : List Tm) (hL : L.length ≤ 1000000) (hM : M.length ≤ 1000000) : GoodP Try.prog gl0 26 [rowS eT T0 3 std fun _ => L, rowS eT T0 3 std fun _ => M] (.bool (std.tb fun _ => eqT L M)) := by
  refine fn_sound' (T := seatT) (G := gwe) (X := noX) seatT_ok gwe_ok noX_ok noI_ok mixed Try.func26 (.one) (fun A => [rowS eT T0 3 A fun _ => L, rowS eT T0 3 A fun _ => M]) (fun A => .bool (A.tb fun _ => eqT L M)) fun A hA => ?_
  cbv
  repeat' (first | with_reducible exact True.intro | with_reducible exact dr_ok hA (by kernel_rfl) | with_reducible exact eqv_refl hA _ | with_reducible refine And.intro ?_ ?_ | (intro hc; cbv))
  · subst hA
    simp only [sS] at *
    refine (eqT_no fun e => ?_).symm
    rw [e] at hc
    simp at hc
  have hlen : L.length = M.length := by
    subst hA
    simp only [sS] at hc
    simp at hc
    omega
  refine ⟨⟨{i : Nat // i ≤ L.length ∧ L.take i = M.take i}, fun b i => [(5, .int .i64 (i.1 : Nat))], fun b i => [], fun i => L.length - i.1, true⟩, ⟨⟨0, Nat.zero_le _, rfl⟩, ?_⟩, ?_⟩
  · cbv
    subst hA
    simp [-List.getD_eq_getElem?_getD, sS]
  · rintro ⟨i, hx⟩
    have hi : i ≤ L.length := hx.1
    have he : L.take i = M.take i := hx.2
    rcases Nat.lt_or_ge i L.length with hlt | hge
    · obtain ⟨i', hi'⟩ : ∃ i', i' = i + 1 := ⟨_, rfl⟩
      obtain ⟨t, ht⟩ : ∃ t, t = L.getD i T0 := ⟨_, rfl⟩
      obtain ⟨q, hq⟩ : ∃ q, q = M.getD i T0 := ⟨_, rfl⟩
      have hgt : L.getD i { s := 0, r := [], u := 0 } = t := ht.symm
      have hgq : M.getD i { s := 0, r := [], u := 0 } = q := hq.symm
      have hyes : t = q → L.take i' = M.take i' := fun h => by rw [hi', ← take_snoc (d := T0) hlt, ← take_snoc (d := T0) (show i < M.length by omega), ← ht, ← hq, h, he]
      have hno : ¬t = q → eqT L M = false := fun h => eqT_no fun e => h (by rw [ht, hq, e])
      have heq : (t.s = q.s ∧ t.r = q.r ∧ t.u = q.u) → t = q := fun h => by cases t; cases q; simp only [Tm.mk.injEq]; exact h
      cbv
      repeat' (first | with_reducible exact True.intro | with_reducible exact dr_ok hA (by kernel_rfl) | with_reducible exact eqv_refl hA _ | with_reducible refine And.intro ?_ ?_ | (intro hc; cbv))
      all_goals first
        | (exfalso
           subst hA
           simp only [sS, Int.ofNat_eq_natCast, Int.toNat_natCast] at *
           have hq : decide ((i : Int) < (L.length : Int)) = false := by assumption
           have := of_decide_eq_false hq
           omega)
        | (fail_if_success (refine Exists.intro ?_ ?_)
           subst hA
           simp only [sS, Int.ofNat_eq_natCast, Int.toNat_natCast, hgt, hgq] at *
           first
             | exact ⟨by omega, by omega⟩
             | (refine (hno fun e => ?_).symm
                rw [e] at hc
                simp at hc))
        | (have hn : t = q := by
             subst hA
             simp only [sS, Int.ofNat_eq_natCast, Int.toNat_natCast, hgt, hgq] at *
             simp at hc
             exact heq hc
           refine ⟨⟨i', by omega, hyes hn⟩, ?_, show L.length - i' < L.length - i by omega⟩
           cbv
           subst hA
           simp [-List.getD_eq_getElem?_getD, sS]
           exact w_succ' hi' (by omega))
        | trace_state
    · have hie : i = L.length := by omega
      have hall : eqT L M = true := by
        rw [eqT_iff]
        rw [hie, List.take_length, hlen, List.take_length] at he
        exact he
      cbv
      repeat' (first | with_reducible exact True.intro | with_reducible exact dr_ok hA (by kernel_rfl) | with_reducible exact eqv_refl hA _ | with_reducible refine And.intro ?_ ?_ | (intro hc; cbv))
      all_goals first
        | (exfalso
           subst hA
           simp only [sS, Int.ofNat_eq_natCast, Int.toNat_natCast] at *
           have hq : decide ((i : Int) < (L.length : Int)) = true := by assumption
           have := of_decide_eq_true hq
           omega)
        | (subst hA; simp only [sS, hall]; done)
        | trace_state
noncomputable def c_rtimers : Ct := fun A args => match args with
  | [.slc n 3 f, .slc k 3 g] => some (some (A.tp fun _ => (isRow eT T0 3 n f ∧ isRow eT T0 3 k g) ∧ n ≤ 1000000 ∧ k ≤ 1000000), .bool (A.tb fun _ => eqT (lstOf eT T0 3 n f) (lstOf eT T0 3 k g)))
  | _ => none
noncomputable def gwf : Ar → Pu := addC 26 c_rtimers (gwe)
theorem gwf_ok : PuOk Try.prog gl0 (gwf std) := by
  refine addC_ok (gwe_ok) ⟨_, Try.func26, rfl, by decide⟩ ?_
  · intro args p r h hp
    unfold c_rtimers at h
    split at h <;> cases h
    exact good_sv (good_rtimers _ _ (by rw [lstOf_length hp.1.1]; exact hp.2.1) (by rw [lstOf_length hp.1.2]; exact hp.2.2)) ⟨hp.1.1.sv, hp.1.2.sv, trivial⟩
theorem good_rTimers (L M : List Tm) (hL : L.length ≤ 1000000) (hM : M.length ≤ 1000000) : GoodP Try.prog gl0 14 [rowS eT T0 3 std fun _ => L, rowS eT T0 3 std fun _ => M] (.bool (std.tb fun _ => eqT L M)) := by
  refine fn_sound' (T := seatT) (G := gwf) (X := noX) seatT_ok gwf_ok noX_ok noI_ok mixed Try.func14 (.one) (fun A => [rowS eT T0 3 A fun _ => L, rowS eT T0 3 A fun _ => M]) (fun A => .bool (A.tb fun _ => eqT L M)) fun A hA => ?_
  cbv
  repeat' (first | with_reducible exact True.intro | with_reducible exact dr_ok hA (by kernel_rfl) | with_reducible exact eqv_refl hA _ | with_reducible refine And.intro ?_ ?_ | (intro hc; cbv))
  all_goals (subst hA; simp only [sS, isRow_M, lstOf_M] at *)
  all_goals first
    | exact ⟨⟨trivial, trivial⟩, hL, hM⟩
    | trace_state
theorem good_rFindT (L : List Tm) (s : Int) (r : List UInt8) (hL : L.length ≤ 1000000) : GoodP Try.prog gl0 16 [rowS eT T0 3 std fun _ => L, sKey std s r] (.int .u64 (std.ti fun _ => fdT L s r)) := by
  refine fn_sound' (T := seatT) (G := gwf) (X := noX) seatT_ok gwf_ok noX_ok noI_ok mixed Try.func16 (.one) (fun A => [rowS eT T0 3 A fun _ => L, sKey A s r]) (fun A => .int .u64 (A.ti fun _ => fdT L s r)) fun A hA => ?_
  cbv
  repeat' (first | with_reducible exact True.intro | with_reducible exact dr_ok hA (by kernel_rfl) | with_reducible exact eqv_refl hA _ | with_reducible refine And.intro ?_ ?_ | (intro hc; cbv))
  refine ⟨⟨{i : Nat // i ≤ L.length ∧ hkT (L.take i) s r = false}, fun b i => [(5, .int .i64 (i.1 : Nat))], fun b i => [], fun i => L.length - i.1, true⟩, ⟨⟨0, Nat.zero_le _, rfl⟩, ?_⟩, ?_⟩
  · cbv
    subst hA
    simp [-List.getD_eq_getElem?_getD, sS]
  · rintro ⟨i, hx⟩
    have hi : i ≤ L.length := hx.1
    have hh := hx.2
    rcases Nat.lt_or_ge i L.length with hlt | hge
    · obtain ⟨i', hi'⟩ : ∃ i', i' = i + 1 := ⟨_, rfl⟩
      obtain ⟨t, ht⟩ : ∃ t, t = L.getD i T0 := ⟨_, rfl⟩
      have hgt : L.getD i { s := 0, r := [], u := 0 } = t := ht.symm
      have hyes : t.s = s → t.r = r → fdT L s r = t.u ∧ hkT L s r = true := fun h1 h2 => by rw [ht] at h1 h2 ⊢; exact fd_at hh hlt h1 h2
      have hno : ¬(t.s = s ∧ t.r = r) → hkT (L.take i') s r = false := fun h => by rw [ht] at h; rw [hi']; exact hk_snoc hh hlt h
      cbv
      repeat' (first | with_reducible exact True.intro | with_reducible exact dr_ok hA (by kernel_rfl) | with_reducible exact eqv_refl hA _ | with_reducible refine And.intro ?_ ?_ | (intro hc; cbv))
      all_goals first
        | (exfalso
           subst hA
           simp only [sS, Int.ofNat_eq_natCast, Int.toNat_natCast] at *
           have hq : decide ((i : Int) < (L.length : Int)) = false := by assumption
           have := of_decide_eq_false hq
           omega)
        | (fail_if_success (refine Exists.intro ?_ ?_)
           subst hA
           simp only [sS, Int.ofNat_eq_natCast, Int.toNat_natCast, hgt] at *
           first
             | exact ⟨by omega, by omega⟩
             | (simp at hc
                have := hyes hc.1 hc.2
                exact this.1.symm))
        | (have hn : ¬(t.s = s ∧ t.r = r) := by
             subst hA
             simp only [sS, Int.ofNat_eq_natCast, Int.toNat_natCast, hgt] at *
             simp at hc
             exact fun h => hc h.1 h.2
           refine ⟨⟨i', by omega, hno hn⟩, ?_, show L.length - i' < L.length - i by omega⟩
           cbv
           subst hA
           simp [-List.getD_eq_getElem?_getD, sS]
           exact w_succ' hi' (by omega))
        | trace_state
    · have hie : i = L.length := by omega
      rw [hie, List.take_length] at hh
      have h0 := fd_no hh
      cbv
      repeat' (first | with_reducible exact True.intro | with_reducible exact dr_ok hA (by kernel_rfl) | with_reducible exact eqv_refl hA _ | with_reducible refine And.intro ?_ ?_ | (intro hc; cbv))
      all_goals first
        | (exfalso
           subst hA
           simp only [sS, Int.ofNat_eq_natCast, Int.toNat_natCast] at *
           have hq : decide ((i : Int) < (L.length : Int)) = true := by assumption
           have := of_decide_eq_true hq
           omega)
        | (subst hA; simp only [sS, h0]; done)
        | trace_state
noncomputable def c_rTimers : Ct := fun A args => match args with
  | [.slc n 3 f, .slc k 3 g] => some (some (A.tp fun _ => (isRow eT T0 3 n f ∧ isRow eT T0 3 k g) ∧ n ≤ 1000000 ∧ k ≤ 1000000), .bool (A.tb fun _ => eqT (lstOf eT T0 3 n f) (lstOf eT T0 3 k g)))
  | _ => none
noncomputable def c_rFindT : Ct := fun A args => match args with
  | [.slc n 3 f, .agg [.int .u32 s, .str r]] => some (some (A.tp fun _ => isRow eT T0 3 n f ∧ n ≤ 1000000), .int .u64 (A.ti fun _ => fdT (lstOf eT T0 3 n f) s r))
  | _ => none
noncomputable def gwg : Ar → Pu := addC 14 c_rTimers (addC 16 c_rFindT (gwf))
theorem gwg_ok : PuOk Try.prog gl0 (gwg std) := by
  refine addC_ok (addC_ok (gwf_ok) ⟨_, Try.func16, rfl, by decide⟩ ?_) ⟨_, Try.func14, rfl, by decide⟩ ?_
  · intro args p r h hp
    unfold c_rFindT at h
    split at h <;> cases h
    exact good_sv (good_rFindT _ _ _ (by rw [lstOf_length hp.1]; exact hp.2)) ⟨hp.1.sv, ⟨_, rfl, rfl, rfl, trivial⟩, trivial⟩
  · intro args p r h hp
    unfold c_rTimers at h
    split at h <;> cases h
    exact good_sv (good_rTimers _ _ (by rw [lstOf_length hp.1.1]; exact hp.2.1) (by rw [lstOf_length hp.1.2]; exact hp.2.2)) ⟨hp.1.1.sv, hp.1.2.sv, trivial⟩
end Go.Vd

