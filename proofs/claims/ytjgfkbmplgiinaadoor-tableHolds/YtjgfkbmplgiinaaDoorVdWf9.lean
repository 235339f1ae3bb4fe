/- Tables: what they come to, by their entries. Mathematics only. -/
import Derived.Test.YtjgfkbmplgiinaaDoorVdV9
import Derived.Test.YtjgfkbmplgiinaaDoorVdRow2
import Derived.Lib.SmallJoins
import Derived.Test.YtjgfkbmplgiinaaDoorRows
import Derived.Test.YtjgfkbmplgiinaaDoorCards
import Derived.Test.YtjgfkbmplgiinaaDoorTie
import Derived.Test.YtjgfkbmplgiinaaDoorVdN0
import Derived.ProofKit
import Derived.LaidMore
import Derived.OpenShut
import Derived.Stop.Joined
import Derived.SevenTiedAt
import Derived.Lib.LaidTab
import Derived.Test.YtjgfkbmplgiinaaDoorTrydShelf
set_option linter.unusedVariables false
set_option linter.unusedSimpArgs false
set_option maxRecDepth 100000
set_option maxHeartbeats 8000000
namespace Go.Vd
open Go.Proofs
/-! ### Shards, parted at a key -/
theorem has_spec {L : List Ent} {s : Int} {r : List UInt8} (h : shR L = true) (hh : has L s r = true) : ∃ A x B, L = A ++ x :: B ∧ Sp A B s r ∧ x.s = s ∧ x.r = r ∧ eR x = true ∧ pos L s r = A.length := by
  have hasc := (ascB_iff L).1 (shR_asc h).1
  obtain ⟨hp, hk⟩ := has_pos hasc hh
  obtain ⟨k1, k2⟩ := kE_iff.1 hk
  have hpw := asc_pw.1 hasc
  have e0 : L = L.take (pos L s r) ++ L.getD (pos L s r) E0 :: L.drop (pos L s r + 1) := by
    rw [← getD_get hp, ← List.drop_eq_getElem_cons hp, List.take_append_drop]
  refine ⟨L.take (pos L s r), L.getD (pos L s r) E0, L.drop (pos L s r + 1), e0, ⟨fun a ha => hpw.1 a (List.mem_of_mem_take ha), fun b hb => hpw.1 b (List.mem_of_mem_drop hb), hpw.2.sublist (List.take_sublist _ _), hpw.2.sublist (List.drop_sublist _ _), fun a ha => ?_, fun b hb => ?_⟩, k1, k2, (hasc _ hp).1, by rw [List.length_take]; omega⟩
  · have h2 := hpw.2
    rw [e0] at h2
    have := (List.pairwise_append.1 h2).2.2 a ha _ (List.mem_cons_self ..)
    unfold ordE at this
    rw [k1, k2] at this
    exact this
  · have h2 := hpw.2
    rw [e0] at h2
    have := (List.pairwise_cons.1 (List.pairwise_append.1 h2).2.1).1 b hb
    unfold ordE at this
    rw [k1, k2] at this
    exact this
theorem Sp.hasno {A B : List Ent} {s : Int} {r : List UInt8} (h : Sp A B s r) : has (A ++ B) s r = false := by
  unfold has
  rw [List.any_eq_false]
  intro x hx
  rcases List.mem_append.1 hx with hx | hx
  · rw [h.kA hx]; simp
  · rw [h.kB hx]; simp
theorem Sp.ascAB {A B : List Ent} {s : Int} {r : List UInt8} (h : Sp A B s r) : ascP (A ++ B) := by
  rw [asc_pw]
  refine ⟨fun x hx => (List.mem_append.1 hx).elim (h.ra x) (h.rb x), List.pairwise_append.2 ⟨h.pa, h.pb, fun a ha b hb => ?_⟩⟩
  exact ordK_trans (h.la a ha) (h.lb b hb)
/-- What swapping comes to, in a shard that is right. -/
theorem sw_spec {L : List Ent} {z : Int} {e : Ent} (h : shR L = true) (hc : swC L z e = 0) : eR e = true ∧ has L e.s e.r = true ∧ (fnd L e.s e.r).st = z ∧ shR (swL L z e) = true ∧ (swL L z e).length = L.length ∧ fnd (swL L z e) e.s e.r = e ∧ has (swL L z e) e.s e.r = true ∧
    (∀ s r, ¬(e.s = s ∧ e.r = r) → fnd (swL L z e) s r = fnd L s r ∧ has (swL L z e) s r = has L s r) ∧ ∀ x, x ∈ swL L z e → x ∈ L ∨ x = e := by
  have hl := (shR_asc h).2
  have he : eR e = true := by
    cases he : eR e
    · rw [(swL_1 (by rw [he]; cases shR L <;> rfl)).2] at hc; cases hc
    · rfl
  have hg : (bif shR L then eR e else false) = true := by rw [h, he]; rfl
  have hh : has L e.s e.r = true := by
    cases hh : has L e.s e.r
    · rw [(swL_5 hg hh).2] at hc; cases hc
    · rfl
  obtain ⟨A, x, B, e0, hSp, k1, k2, k3, k4⟩ := has_spec h hh
  have hst : (L.getD (pos L e.s e.r) E0).st = z := by
    by_cases h3 : (L.getD (pos L e.s e.r) E0).st = z
    · exact h3
    · rw [(swL_8 hg hh h3).2] at hc; cases hc
  have hsw := (swL_0 hg hh hst).1
  rw [k4, e0, mid_set] at hsw
  have hf := hSp.fnd k1 k2
  have hx : (L.getD (pos L e.s e.r) E0) = x := by rw [k4, e0, mid_getD]
  have hlen : A.length + B.length < 128 := by rw [e0] at hl; simp at hl; omega
  have hm := mid_spec hSp he hlen
  rw [hx] at hst
  rw [e0]
  refine ⟨he, hf.2, by rw [hf.1]; exact hst, ?_, ?_, ?_, ?_, fun s r hn => ?_, fun y hy => ?_⟩
  · rw [hsw]; exact hm.1
  · rw [hsw]; simp
  · rw [hsw]; exact hm.2.2.1
  · rw [hsw]; exact hm.2.1
  · have hn2 : ¬(x.s = s ∧ x.r = r) := by rw [k1, k2]; exact hn
    have o1 := Sp.oth (A := A) (B := B) (s := 0) (r := []) hn
    have o2 := Sp.oth (A := A) (B := B) (s := 0) (r := []) hn2
    rw [hsw, o1.1, o1.2, o2.1, o2.2]
    exact ⟨rfl, rfl⟩
  · rw [hsw] at hy
    simp only [List.mem_append, List.mem_cons] at hy ⊢
    rcases hy with hy | hy | hy
    · exact .inl (.inl hy)
    · exact .inr hy
    · exact .inl (.inr (.inr hy))
theorem rm_spec {L : List Ent} {s : Int} {r : List UInt8} (h : shR L = true) (hh : has L s r = true) : rmC L s r = 0 ∧ shR (rmL L s r) = true ∧ (rmL L s r).length + 1 = L.length ∧ has (rmL L s r) s r = false ∧
    (∀ s' r', ¬(s = s' ∧ r = r') → fnd (rmL L s r) s' r' = fnd L s' r' ∧ has (rmL L s r) s' r' = has L s' r') ∧ ∀ x, x ∈ rmL L s r → x ∈ L := by
  have hl := (shR_asc h).2
  obtain ⟨A, x, B, e0, hSp, k1, k2, k3, k4⟩ := has_spec h hh
  have h1 := rm_0 h hh
  have h2 := h1.1
  rw [k4, e0, mid_rm] at h2
  rw [← e0] at h2
  have hlen : (A ++ B).length + 1 = L.length := by rw [e0]; simp; omega
  refine ⟨h1.2, ?_, ?_, ?_, fun s' r' hn => ?_, fun y hy => ?_⟩
  · rw [h2]; exact shR_yes (by omega) hSp.ascAB
  · rw [h2]; exact hlen
  · rw [h2]; exact hSp.hasno
  · have hn2 : ¬(x.s = s' ∧ x.r = r') := by rw [k1, k2]; exact hn
    have o2 := Sp.oth (A := A) (B := B) (s := 0) (r := []) hn2
    rw [h2, e0, o2.1, o2.2]
    exact ⟨rfl, rfl⟩
  · rw [h2] at hy
    rw [e0]
    simp only [List.mem_append, List.mem_cons] at hy ⊢
    rcases hy with hy | hy
    · exact .inl hy
    · exact .inr (.inr hy)
/-! ### Tables whose one shard is other -/
theorem getD_set {T : Tbl} {i : Nat} (hi : i < T.length) (L : List Ent) (j : Nat) : (T.set i L).getD j [] = if j = i then L else T.getD j [] := by
  rw [List.getD_eq_getElem?_getD, List.getD_eq_getElem?_getD, List.getElem?_set]
  by_cases h : i = j
  · subst h
    simp [hi]
  · rw [if_neg h, if_neg (fun e => h e.symm)]
theorem cnt_set {T : Tbl} {i : Nat} (hi : i < T.length) (L : List Ent) : cnt (T.set i L) + (T.getD i []).length = cnt T + L.length := by
  unfold cnt
  rw [List.set_eq_take_append_cons_drop, if_pos hi]
  have e0 : T = T.take i ++ T.getD i [] :: T.drop (i + 1) := by
    have : T[i] = T.getD i [] := by simp [List.getD_eq_getElem?_getD, hi]
    rw [← this, ← List.drop_eq_getElem_cons hi, List.take_append_drop]
  conv => rhs; rw [e0]
  simp only [List.map_append, List.map_cons, List.sum_append, List.sum_cons]
  omega
theorem shOk_of {m : Int} {T : Tbl} (h : tbR m T = true) {i : Nat} (hi : i < T.length) : shR (T.getD i []) = true ∧ ∀ x ∈ T.getD i [], shardI x.s x.r (T.length : Int) = (i : Int) := by
  unfold tbR at h
  simp only [Bool.and_eq_true, List.all_eq_true] at h
  have h2 := h.2.1 i (List.mem_range.2 hi)
  unfold shOk at h2
  simp only [Bool.and_eq_true, List.all_eq_true] at h2
  exact ⟨h2.1, fun x hx => of_decide_eq_true (h2.2 x hx)⟩
theorem tbR_set {m : Int} {T : Tbl} (h : tbR m T = true) {i : Nat} (hi : i < T.length) {L : List Ent} (h1 : shR L = true) (h2 : ∀ x ∈ L, shardI x.s x.r (T.length : Int) = (i : Int)) (h3 : (cnt (T.set i L) : Int) ≤ m) : tbR m (T.set i L) = true := by
  have h0 := h
  unfold tbR at h ⊢
  simp only [Bool.and_eq_true, List.all_eq_true, List.length_set] at h ⊢
  refine ⟨h.1, fun j hj => ?_, decide_eq_true h3⟩
  have hj := List.mem_range.1 hj
  unfold shOk
  rw [getD_set hi, List.length_set]
  by_cases e : j = i
  · subst e
    rw [if_pos rfl, h1, Bool.true_and, List.all_eq_true]
    exact fun x hx => decide_eq_true (h2 x hx)
  · rw [if_neg e]
    have := shOk_of h0 hj
    rw [this.1, Bool.true_and, List.all_eq_true]
    exact fun x hx => decide_eq_true (this.2 x hx)
theorem lk_set {T : Tbl} {i : Nat} (hi : i < T.length) (L : List Ent) (s : Int) (r : List UInt8) :
    shi (T.set i L) s r = shi T s r ∧ (¬shi T s r < 0 → shl (T.set i L) s r = if shi T s r = (i : Int) then L else shl T s r) := by
  have e0 : shi (T.set i L) s r = shi T s r := by unfold shi; rw [List.length_set]
  refine ⟨e0, fun h => ?_⟩
  unfold shl
  rw [e0, getD_set hi]
  by_cases e : shi T s r = (i : Int)
  · rw [if_pos e, if_pos (by omega)]
  · rw [if_neg e, if_neg (by omega)]
/-- Another key is looked for. -/
theorem lk_other {T : Tbl} {i : Nat} (hi : i < T.length) {L : List Ent} {s : Int} {r : List UInt8} (h : shi T s r = (i : Int) → fnd L s r = fnd (shl T s r) s r ∧ has L s r = has (shl T s r) s r) :
    lkE (T.set i L) s r = lkE T s r ∧ lkB (T.set i L) s r = lkB T s r := by
  obtain ⟨h1, h2⟩ := lk_set hi L s r
  by_cases h0 : shi T s r < 0
  · have a := lk_n (T := T) h0
    have b := lk_n (T := T.set i L) (by rw [h1]; exact h0)
    rw [a.1, a.2, b.1, b.2]
    exact ⟨rfl, rfl⟩
  · have a := lk_y (T := T) h0
    have b := lk_y (T := T.set i L) (by rw [h1]; exact h0)
    rw [a.1, a.2, b.1, b.2, h2 h0]
    by_cases e : shi T s r = (i : Int)
    · rw [if_pos e]; exact h e
    · rw [if_neg e]; exact ⟨rfl, rfl⟩
theorem lk_this {T : Tbl} {i : Nat} (hi : i < T.length) {L : List Ent} {s : Int} {r : List UInt8} (h : shi T s r = (i : Int)) : lkE (T.set i L) s r = fnd L s r ∧ lkB (T.set i L) s r = has L s r := by
  obtain ⟨h1, h2⟩ := lk_set hi L s r
  have h0 : ¬shi T s r < 0 := by omega
  have b := lk_y (T := T.set i L) (by rw [h1]; exact h0)
  rw [b.1, b.2, h2 h0, if_pos h]
  exact ⟨rfl, rfl⟩
/-! ### What a law of swaps asks -/
theorem tsw_spec {m : Int} {T : Tbl} {z : Int} {e : Ent} (h : tbR m T = true) (hc : tSwC m T z e = 0) :
    tHas m T e.s e.r = true ∧ (tFnd m T e.s e.r).st = z ∧ tbR m (tSwT m T z e) = true ∧ tFnd m (tSwT m T z e) e.s e.r = e ∧ tHas m (tSwT m T z e) e.s e.r = true ∧
    ∀ s r, ¬(e.s = s ∧ e.r = r) → tFnd m (tSwT m T z e) s r = tFnd m T s r ∧ tHas m (tSwT m T z e) s r = tHas m T s r := by
  have hok : okE m T e = true := by
    cases hok : okE m T e
    · rw [(tSw_1 (z := z) hok).2] at hc; cases hc
    · rfl
  have hin := shi_in hok
  obtain ⟨h1, h2⟩ := tSw_0 (z := z) hok
  rw [h2] at hc
  obtain ⟨i, hi⟩ : ∃ i : Nat, shi T e.s e.r = (i : Int) := ⟨(shi T e.s e.r).toNat, by omega⟩
  have hil : i < T.length := by omega
  have hL : shl T e.s e.r = T.getD i [] := by unfold shl; rw [hi]; rfl
  have hshi := shOk_of h hil
  rw [hL] at hc h1
  rw [hi] at h1
  simp only [Int.toNat_natCast] at h1
  obtain ⟨q1, q2, q3, q4, q5, q6, q7, q8, q9⟩ := sw_spec hshi.1 hc
  have hcs := cnt_set hil (swL (T.getD i []) z e)
  have hR : tbR m (T.set i (swL (T.getD i []) z e)) = true := tbR_set h hil q4 (fun x hx => by
    rcases q9 x hx with hx | rfl
    · exact hshi.2 x hx
    · exact hi) (by have := (tbR_cnt h).2.1; omega)
  rw [h1]
  have a := tf_y (s := e.s) (r := e.r) h
  have b := tf_y (s := e.s) (r := e.r) hR
  have c := lk_this (L := swL (T.getD i []) z e) hil hi
  have d := lk_y (T := T) (s := e.s) (r := e.r) (by omega)
  refine ⟨by rw [a.2, d.2, hL]; exact q2, by rw [a.1, d.1, hL]; exact q3, hR, by rw [b.1, c.1]; exact q6, by rw [b.2, c.2]; exact q7, fun s r hn => ?_⟩
  have a' := tf_y (s := s) (r := r) h
  have b' := tf_y (s := s) (r := r) hR
  have o := lk_other (T := T) (L := swL (T.getD i []) z e) (s := s) (r := r) hil (fun hs => by
    have : shl T s r = T.getD i [] := by unfold shl; rw [hs]; rfl
    rw [this]
    exact q8 s r hn)
  rw [b'.1, b'.2, a'.1, a'.2, o.1, o.2]
  exact ⟨rfl, rfl⟩
theorem tsw_no {m : Int} {T : Tbl} {z : Int} {e : Ent} (h : tbR m T = true) (hc : ¬tSwC m T z e = 0) : tSwT m T z e = T ∧ (eR e = true → tHas m T e.s e.r = true → ¬(tFnd m T e.s e.r).st = z) := by
  cases hok : okE m T e
  · refine ⟨(tSw_1 (z := z) hok).1, fun he => ?_⟩
    unfold okE at hok
    rw [h, he] at hok
    cases hok
  · have hin := shi_in hok
    obtain ⟨h1, h2⟩ := tSw_0 (z := z) hok
    rw [h2] at hc
    obtain ⟨i, hi⟩ : ∃ i : Nat, shi T e.s e.r = (i : Int) := ⟨(shi T e.s e.r).toNat, by omega⟩
    have hil : i < T.length := by omega
    have hL : shl T e.s e.r = T.getD i [] := by unfold shl; rw [hi]; rfl
    have hshi := shOk_of h hil
    rw [hL] at hc h1
    rw [hi] at h1
    simp only [Int.toNat_natCast] at h1
    have he := (okE_t hok).2
    have hg : (bif shR (T.getD i []) then eR e else false) = true := by rw [hshi.1, he]; rfl
    have a := tf_y (s := e.s) (r := e.r) h
    have d := lk_y (T := T) (s := e.s) (r := e.r) (by omega)
    have hsame : swL (T.getD i []) z e = T.getD i [] := by
      by_cases hh : has (T.getD i []) e.s e.r = true
      · by_cases hst : ((T.getD i []).getD (pos (T.getD i []) e.s e.r) E0).st = z
        · exact absurd (swL_0 hg hh hst).2 hc
        · exact (swL_8 hg hh hst).1
      · exact (swL_5 hg (by simpa using hh)).1
    refine ⟨by rw [h1, hsame, set_getD], fun _ hh hst => ?_⟩
    rw [a.2, d.2, hL] at hh
    rw [a.1, d.1, hL] at hst
    obtain ⟨A, x, B, e0, hSp, k1, k2, k3, k4⟩ := has_spec hshi.1 hh
    have hf := (hSp.fnd k1 k2).1
    rw [← e0] at hf
    refine hc (swL_0 hg hh ?_).2
    rw [k4, e0, mid_getD, ← hf]
    exact hst
theorem trt_no {m : Int} {T : Tbl} {s : Int} {r : List UInt8} (h : tbR m T = true) (hc : ¬tRtC m T s r = 0) : tRtT m T s r = T ∧ (tHas m T s r = true → stW (tFnd m T s r).st = true) := by
  have a := tf_y (s := s) (r := r) h
  rw [a.1, a.2]
  cases h1 : lkB T s r
  · exact ⟨(tRt_5 h h1).1, fun e => by cases e⟩
  · cases h2 : stW (lkE T s r).st
    · exfalso
      have h3 := tRt_0 h h1 h2
      rw [h3.2] at hc
      have hin := lkB_in h1
      have d := lk_y (T := T) (s := s) (r := r) (by omega)
      have hshi := shOk_of h (i := (shi T s r).toNat) (by omega)
      rw [d.2] at h1
      exact hc (rm_spec (L := shl T s r) hshi.1 h1).1
    · exact ⟨(tRt_8 h h1 h2).1, fun _ => rfl⟩
theorem trt_spec {m : Int} {T : Tbl} {s : Int} {r : List UInt8} (h : tbR m T = true) (hc : tRtC m T s r = 0) :
    tbR m (tRtT m T s r) = true ∧ tHas m (tRtT m T s r) s r = false ∧ cnt (tRtT m T s r) + 1 = cnt T ∧
    ∀ s' r', ¬(s = s' ∧ r = r') → tFnd m (tRtT m T s r) s' r' = tFnd m T s' r' ∧ tHas m (tRtT m T s r) s' r' = tHas m T s' r' := by
  cases h1 : lkB T s r
  · rw [(tRt_5 h h1).2] at hc; cases hc
  cases h2 : stW (lkE T s r).st
  rotate_left
  · rw [(tRt_8 h h1 h2).2] at hc; cases hc
  have h3 := (tRt_0 h h1 h2).1
  have hin := lkB_in h1
  obtain ⟨i, hi⟩ : ∃ i : Nat, shi T s r = (i : Int) := ⟨(shi T s r).toNat, by omega⟩
  have hil : i < T.length := by omega
  have hL : shl T s r = T.getD i [] := by unfold shl; rw [hi]; rfl
  have hshi := shOk_of h hil
  have d := lk_y (T := T) (s := s) (r := r) (by omega)
  rw [d.2, hL] at h1
  rw [hL, hi] at h3
  simp only [Int.toNat_natCast] at h3
  obtain ⟨q1, q2, q3, q4, q5, q6⟩ := rm_spec hshi.1 h1
  have hcs := cnt_set hil (rmL (T.getD i []) s r)
  have hcn := (tbR_cnt h).2.1
  have hR : tbR m (T.set i (rmL (T.getD i []) s r)) = true := tbR_set h hil q2 (fun x hx => hshi.2 x (q6 x hx)) (by omega)
  rw [h3]
  have b := tf_y (s := s) (r := r) hR
  have c := lk_this (L := rmL (T.getD i []) s r) hil hi
  refine ⟨hR, by rw [b.2, c.2]; exact q4, by omega, fun s' r' hn => ?_⟩
  have a' := tf_y (s := s') (r := r') h
  have b' := tf_y (s := s') (r := r') hR
  have o := lk_other (T := T) (L := rmL (T.getD i []) s r) (s := s') (r := r') hil (fun hs => by
    have : shl T s' r' = T.getD i [] := by unfold shl; rw [hs]; rfl
    rw [this]
    exact q5 s' r' hn)
  rw [b'.1, b'.2, a'.1, a'.2, o.1, o.2]
  exact ⟨rfl, rfl⟩
theorem allT_len {m : Int} {T : Tbl} (h : tbR m T = true) : (allT m T).length = cnt T := by rw [all_y h, (srtE_sorts _).1, flat_len]
/-! ### What isn't too much stays so -/
theorem tbQ_iff {T : Tbl} : tbQ T ↔ T.length ≤ 1000000 ∧ ∀ L ∈ T, L.length ≤ 1000000 ∧ ∀ x ∈ L, enQ x := by
  constructor
  · rintro ⟨h1, h2, h3⟩
    refine ⟨h1, fun L hL => ?_⟩
    obtain ⟨i, hi, rfl⟩ := List.getElem_of_mem hL
    have e : T[i] = T.getD i [] := by simp [List.getD_eq_getElem?_getD, hi]
    rw [e]
    refine ⟨h2 i, fun x hx => ?_⟩
    obtain ⟨j, hj, rfl⟩ := List.getElem_of_mem hx
    rw [getD_get hj]
    exact h3 i j
  · rintro ⟨h1, h2⟩
    have h0 : ∀ i, ¬i < T.length → T.getD i [] = [] := fun i hi => by rw [List.getD_eq_getElem?_getD, List.getElem?_eq_none (by omega)]; rfl
    have hm : ∀ i, i < T.length → T.getD i [] ∈ T := fun i hi => by
      rw [List.getD_eq_getElem?_getD, List.getElem?_eq_getElem hi]
      exact List.getElem_mem hi
    refine ⟨h1, fun i => ?_, fun i j => ?_⟩
    · by_cases hi : i < T.length
      · exact (h2 _ (hm i hi)).1
      · rw [h0 i hi]; simp
    · by_cases hi : i < T.length
      · by_cases hj : j < (T.getD i []).length
        · exact (h2 _ (hm i hi)).2 _ (getD_mem hj)
        · rw [List.getD_eq_getElem?_getD, List.getElem?_eq_none (by omega)]; exact ⟨by decide, by decide, by decide, by decide⟩
      · rw [h0 i hi, List.getD_nil]; exact ⟨by decide, by decide, by decide, by decide⟩
theorem tbQ_set {T : Tbl} (h : tbQ T) {i : Nat} {L : List Ent} (h1 : L.length ≤ 1000000) (h2 : ∀ x ∈ L, enQ x) : tbQ (T.set i L) := by
  rw [tbQ_iff] at *
  refine ⟨by rw [List.length_set]; exact h.1, fun M hM => ?_⟩
  rcases List.mem_or_eq_of_mem_set hM with hM | rfl
  · exact h.2 M hM
  · exact ⟨h1, h2⟩
theorem shl_Q {T : Tbl} (h : tbQ T) (s : Int) (r : List UInt8) : (shl T s r).length ≤ 1000000 ∧ ∀ x ∈ shl T s r, enQ x := by
  unfold shl
  by_cases hi : (shi T s r).toNat < T.length
  · rw [tbQ_iff] at h
    exact h.2 _ (by rw [List.getD_eq_getElem?_getD, List.getElem?_eq_getElem hi]; exact List.getElem_mem hi)
  · rw [List.getD_eq_getElem?_getD, List.getElem?_eq_none (by omega)]
    exact ⟨by simp, fun x hx => by simp at hx⟩
theorem swL_mem' {L : List Ent} {z : Int} {e x : Ent} (hx : x ∈ swL L z e) : x ∈ L ∨ x = e := by
  unfold swL at hx
  split at hx
  · split at hx
    · split at hx
      · rcases List.mem_or_eq_of_mem_set hx with h | h
        · exact .inl h
        · exact .inr h
      · exact .inl hx
    · exact .inl hx
  · exact .inl hx
theorem swL_len' (L : List Ent) (z : Int) (e : Ent) : (swL L z e).length = L.length := by
  unfold swL
  split
  · split
    · split <;> simp
    · rfl
  · rfl
theorem insL_mem' {L : List Ent} {e x : Ent} (hx : x ∈ insL L e) : x ∈ L ∨ x = e := by
  unfold insL at hx
  split at hx
  · split at hx
    · exact .inl hx
    · split at hx
      · exact .inl hx
      · rcases List.mem_append.1 hx with hx | hx
        · rcases List.mem_append.1 hx with hx | hx
          · exact .inl (List.mem_of_mem_take hx)
          · exact .inr (List.mem_singleton.1 hx)
        · exact .inl (List.mem_of_mem_drop hx)
  · exact .inl hx
theorem insL_len' (L : List Ent) (e : Ent) : (insL L e).length ≤ max L.length 128 := by
  unfold insL
  split
  · rename_i h
    simp only [Bool.and_eq_true] at h
    have := (shR_asc h.1).2
    split
    · omega
    · split
      · omega
      · simp; omega
  · omega
theorem rmL_mem' {L : List Ent} {s : Int} {r : List UInt8} {x : Ent} (hx : x ∈ rmL L s r) : x ∈ L := by
  unfold rmL at hx
  split at hx
  · split at hx
    · rcases List.mem_append.1 hx with hx | hx
      · exact List.mem_of_mem_take hx
      · exact List.mem_of_mem_drop hx
    · exact hx
  · exact hx
theorem rmL_len' (L : List Ent) (s : Int) (r : List UInt8) : (rmL L s r).length ≤ L.length := by
  unfold rmL
  split
  · split
    · simp; omega
    · omega
  · omega
theorem tbQ_sw {m : Int} {T : Tbl} {z : Int} {e : Ent} (h : tbQ T) (he : enQ e) : tbQ (tSwT m T z e) := by
  have h2 := shl_Q h e.s e.r
  unfold tSwT
  split
  · exact tbQ_set h (by rw [swL_len']; exact h2.1) fun x hx => (swL_mem' hx).elim (h2.2 x) fun e => e ▸ he
  · exact h
theorem tbQ_ins {m : Int} {T : Tbl} {e : Ent} (h : tbQ T) (he : enQ e) : tbQ (tInsT m T e) := by
  have h2 := shl_Q h e.s e.r
  unfold tInsT
  split
  · split
    · exact h
    · split
      · exact h
      · exact tbQ_set h (by have := insL_len' (shl T e.s e.r) e; omega) fun x hx => (insL_mem' hx).elim (h2.2 x) fun e => e ▸ he
  · exact h
theorem tbQ_rt {m : Int} {T : Tbl} {s : Int} {r : List UInt8} (h : tbQ T) : tbQ (tRtT m T s r) := by
  have h2 := shl_Q h s r
  unfold tRtT
  split
  · split
    · split
      · exact h
      · exact tbQ_set h (by have := rmL_len' (shl T s r) s r; omega) fun x hx => h2.2 x (rmL_mem' hx)
    · exact h
  · exact h
end Go.Vd

set_option linter.unusedVariables false
set_option linter.unusedSimpArgs false
set_option maxRecDepth 100000
set_option maxHeartbeats 8000000
namespace Go.Vd
open Go.Proofs
theorem mem_flat {T : Tbl} {x : Ent} : x ∈ T.flatten ↔ ∃ i, i < T.length ∧ x ∈ T.getD i [] := by
  rw [List.mem_flatten]
  constructor
  · rintro ⟨L, hL, hx⟩
    obtain ⟨i, hi, rfl⟩ := List.getElem_of_mem hL
    exact ⟨i, hi, by rw [List.getD_eq_getElem?_getD, List.getElem?_eq_getElem hi]; exact hx⟩
  · rintro ⟨i, hi, hx⟩
    rw [List.getD_eq_getElem?_getD, List.getElem?_eq_getElem hi] at hx
    exact ⟨_, List.getElem_mem hi, hx⟩
theorem mem_shl {m : Int} {T : Tbl} (h : tbR m T = true) {x : Ent} (hx : x ∈ T.flatten) : ¬shi T x.s x.r < 0 ∧ x ∈ shl T x.s x.r ∧ eR x = true := by
  obtain ⟨i, hi, hm⟩ := mem_flat.1 hx
  have h2 := shOk_of h hi
  have h3 : shi T x.s x.r = (i : Int) := h2.2 x hm
  refine ⟨by omega, ?_, (asc_pw.1 ((ascB_iff _).1 (shR_asc h2.1).1)).1 x hm⟩
  unfold shl
  rw [h3]
  exact hm
theorem shl_mem {T : Tbl} {s : Int} {r : List UInt8} (h : ¬shi T s r < 0) {x : Ent} (hx : x ∈ shl T s r) : x ∈ T.flatten := by
  unfold shl at hx
  rw [mem_flat]
  by_cases hi : (shi T s r).toNat < T.length
  · exact ⟨_, hi, hx⟩
  · rw [List.getD_eq_getElem?_getD, List.getElem?_eq_none (by omega)] at hx
    simp at hx
theorem has_iff {L : List Ent} {s : Int} {r : List UInt8} : has L s r = true ↔ ∃ x ∈ L, x.s = s ∧ x.r = r := by
  unfold has
  rw [List.any_eq_true]
  exact ⟨fun ⟨x, hx, hk⟩ => ⟨x, hx, kE_iff.1 hk⟩, fun ⟨x, hx, hk⟩ => ⟨x, hx, kE_iff.2 hk⟩⟩
theorem lkB_iff {m : Int} {T : Tbl} (h : tbR m T = true) {s : Int} {r : List UInt8} : lkB T s r = true ↔ ∃ x ∈ T.flatten, x.s = s ∧ x.r = r := by
  constructor
  · intro hb
    by_cases h0 : shi T s r < 0
    · rw [(lk_n h0).2] at hb; cases hb
    · rw [(lk_y h0).2, has_iff] at hb
      obtain ⟨x, hx, hk⟩ := hb
      exact ⟨x, shl_mem h0 hx, hk⟩
  · rintro ⟨x, hx, rfl, rfl⟩
    obtain ⟨h0, h1, _⟩ := mem_shl h hx
    rw [(lk_y h0).2, has_iff]
    exact ⟨x, h1, rfl, rfl⟩
/-! ### Lists in order are told by their members -/
theorem asc_uniq : ∀ {L M : List Ent}, (L.Pairwise fun x y => ordE x y < 0) → (M.Pairwise fun x y => ordE x y < 0) → (∀ x, x ∈ L ↔ x ∈ M) → L = M
  | [], [], _, _, _ => rfl
  | [], y :: M, _, _, h => by have := (h y).2 (List.mem_cons_self ..); simp at this
  | x :: L, [], _, _, h => by have := (h x).1 (List.mem_cons_self ..); simp at this
  | x :: L, y :: M, h1, h2, h => by
    have a := List.pairwise_cons.1 h1
    have b := List.pairwise_cons.1 h2
    have irr : ∀ z : Ent, ¬ordE z z < 0 := fun z h => by
      unfold ordE at h
      rw [ordK_eq, if_pos ⟨rfl, rfl⟩] at h
      exact absurd h (by decide)
    have exy : x = y := by
      rcases List.mem_cons.1 ((h x).1 (List.mem_cons_self ..)) with e | hx
      · exact e
      · rcases List.mem_cons.1 ((h y).2 (List.mem_cons_self ..)) with e | hy
        · exact e.symm
        · exact absurd (ordK_trans (b.1 x hx) (a.1 y hy)) (irr y)
    subst exy
    congr 1
    refine asc_uniq a.2 b.2 fun z => ⟨fun hz => ?_, fun hz => ?_⟩
    · rcases List.mem_cons.1 ((h z).1 (List.mem_cons_of_mem _ hz)) with e | hz'
      · subst e; exact absurd (a.1 z hz) (irr z)
      · exact hz'
    · rcases List.mem_cons.1 ((h z).2 (List.mem_cons_of_mem _ hz)) with e | hz'
      · subst e; exact absurd (b.1 z hz) (irr z)
      · exact hz'
/-- Entries of unlike keys. -/
def unl (x y : Ent) : Prop := ¬(x.s = y.s ∧ x.r = y.r)
theorem unl_symm {x y : Ent} (h : unl x y) : unl y x := fun e => h ⟨e.1.symm, e.2.symm⟩
theorem unl_lt {x y : Ent} (h : ordE x y < 0) : unl x y := fun e => by
  unfold ordE at h
  rw [e.1, e.2, ordK_eq, if_pos ⟨rfl, rfl⟩] at h
  exact absurd h (by decide)
theorem flat_unl {m : Int} {T : Tbl} (h : tbR m T = true) : T.flatten.Pairwise unl := by
  rw [List.pairwise_flatten]
  refine ⟨fun L hL => ?_, ?_⟩
  · obtain ⟨i, hi, rfl⟩ := List.getElem_of_mem hL
    have h2 := shOk_of h hi
    rw [List.getD_eq_getElem?_getD, List.getElem?_eq_getElem hi] at h2
    exact (asc_pw.1 ((ascB_iff _).1 (shR_asc h2.1).1)).2.imp unl_lt
  · rw [List.pairwise_iff_getElem]
    intro i j hi hj hij x hx y hy e
    have h2 := shOk_of h hi
    have h3 := shOk_of h hj
    rw [List.getD_eq_getElem?_getD, List.getElem?_eq_getElem hi] at h2
    rw [List.getD_eq_getElem?_getD, List.getElem?_eq_getElem hj] at h3
    have a := h2.2 x hx
    have b := h3.2 y hy
    rw [e.1, e.2] at a
    omega
theorem srt_asc {m : Int} {T : Tbl} (h : tbR m T = true) : ((allT m T).Pairwise fun x y => ordE x y < 0) ∧ ∀ x, x ∈ allT m T ↔ x ∈ T.flatten := by
  rw [all_y h]
  obtain ⟨h1, h2, h3⟩ := srtE_sorts T.flatten
  refine ⟨?_, fun x => h2.mem_iff⟩
  have hu : (srtE T.flatten).Pairwise unl := (h2.pairwise_iff fun {x y} => unl_symm).2 (flat_unl h)
  rw [List.pairwise_iff_getElem] at hu ⊢
  intro i j hi hj hij
  have a := hu i j hi hj hij
  have b := h3 i j hij (by omega)
  rw [getD_get hi] at a ⊢
  rw [getD_get hj] at a ⊢
  unfold ltOf at b
  have c : ¬ordE ((srtE T.flatten).getD j E0) ((srtE T.flatten).getD i E0) < 0 := by simpa using b
  exact ordK_gt c fun e => a ⟨e.1.symm, e.2.symm⟩
theorem all_same {m : Int} {T U : Tbl} (h1 : tbR m T = true) (h2 : tbR m U = true) (h : ∀ x, x ∈ T.flatten ↔ x ∈ U.flatten) : allT m T = allT m U ∧ cnt T = cnt U := by
  have a := srt_asc h1
  have b := srt_asc h2
  have e := asc_uniq a.1 b.1 fun x => by rw [a.2, b.2, h]
  refine ⟨e, ?_⟩
  rw [← allT_len h1, ← allT_len h2, e]
/-! ### Putting -/
theorem tbR_m {m : Int} {T : Tbl} (h : tbR m T = true) : m ≤ 128 := by
  unfold tbR szR at h
  simp only [Bool.and_eq_true, decide_eq_true_eq] at h
  omega
theorem ins_ok {L : List Ent} {e : Ent} (h1 : shR L = true) (h2 : eR e = true) (h3 : has L e.s e.r = false) (h4 : L.length < 128) : insC L e = 0 := (insL_0 (by rw [h1, h2]; rfl) h3 (by omega)).2
theorem tins_bad {m : Int} {T : Tbl} {e : Ent} (h2 : eR e = false) : tInsC m T e = 1 ∧ tInsT m T e = T := by
  have : okE m T e = false := by unfold okE; rw [h2]; cases tbR m T <;> rfl
  exact ⟨(tIns_1 this).2, (tIns_1 this).1⟩
theorem tins_seen {m : Int} {T : Tbl} {e : Ent} (h : tbR m T = true) (h2 : eR e = true) (h3 : lkB T e.s e.r = true) : tInsC m T e = 6 ∧ tInsT m T e = T := by
  have ho : okE m T e = true := by unfold okE; rw [h, h2]; rfl
  exact ⟨(tIns_6 ho h3).2, (tIns_6 ho h3).1⟩
theorem tins_full {m : Int} {T : Tbl} {e : Ent} (h : tbR m T = true) (h2 : eR e = true) (h3 : lkB T e.s e.r = false) (h4 : m ≤ (cnt T : Int)) : tInsC m T e = 7 ∧ tInsT m T e = T := by
  have ho : okE m T e = true := by unfold okE; rw [h, h2]; rfl
  exact ⟨(tIns_7 ho h3 h4).2, (tIns_7 ho h3 h4).1⟩
theorem tins_put {m : Int} {T : Tbl} {e : Ent} (h : tbR m T = true) (h2 : eR e = true) (h3 : lkB T e.s e.r = false) (h4 : ¬m ≤ (cnt T : Int)) :
    tInsC m T e = 0 ∧ tbR m (tInsT m T e) = true ∧ cnt (tInsT m T e) = cnt T + 1 ∧ lkE (tInsT m T e) e.s e.r = e ∧ lkB (tInsT m T e) e.s e.r = true ∧ (∀ x, x ∈ (tInsT m T e).flatten ↔ x ∈ T.flatten ∨ x = e) ∧
    ∀ s r, ¬(e.s = s ∧ e.r = r) → lkE (tInsT m T e) s r = lkE T s r ∧ lkB (tInsT m T e) s r = lkB T s r := by
  have ho : okE m T e = true := by unfold okE; rw [h, h2]; rfl
  obtain ⟨e1, e2⟩ := tIns_0 ho h3 h4
  have hin := shi_in ho
  obtain ⟨i, hi⟩ : ∃ i : Nat, shi T e.s e.r = (i : Int) := ⟨(shi T e.s e.r).toNat, by omega⟩
  have hil : i < T.length := by omega
  have hL : shl T e.s e.r = T.getD i [] := by unfold shl; rw [hi]; rfl
  have hshi := shOk_of h hil
  have d := lk_y (T := T) (s := e.s) (r := e.r) (by omega)
  rw [d.2, hL] at h3
  rw [hL, hi] at e1
  rw [hL] at e2
  simp only [Int.toNat_natCast] at e1
  have hm := (tbR_cnt h)
  have hm2 := tbR_m h
  have hle : (T.getD i []).length ≤ cnt T := by
    have := cnt_set hil []
    simp only [List.length_nil] at this
    omega
  have hc := ins_ok hshi.1 h2 h3 (by omega)
  obtain ⟨_, _, _, _, _, hSp, hI, hLL⟩ := ins_spec hc
  obtain ⟨A, hA⟩ : ∃ A, A = (T.getD i []).take (pos (T.getD i []) e.s e.r) := ⟨_, rfl⟩
  obtain ⟨B, hB⟩ : ∃ B, B = (T.getD i []).drop (pos (T.getD i []) e.s e.r) := ⟨_, rfl⟩
  rw [← hA, ← hB] at hSp hI hLL
  have hlen : A.length + B.length = (T.getD i []).length := ((congrArg List.length hLL).trans (List.length_append ..)).symm
  have hmid := mid_spec hSp h2 (by omega)
  have hcs := cnt_set hil (insL (T.getD i []) e)
  have hil2 : (insL (T.getD i []) e).length = (T.getD i []).length + 1 := by rw [hI, List.length_append, List.length_cons]; omega
  have hmem : ∀ x, x ∈ insL (T.getD i []) e ↔ x ∈ T.getD i [] ∨ x = e := fun x => by
    rw [hI]
    conv => rhs; rw [hLL]
    simp only [List.mem_append, List.mem_cons]
    constructor
    · rintro (h | h | h)
      · exact .inl (.inl h)
      · exact .inr h
      · exact .inl (.inr h)
    · rintro ((h | h) | h)
      · exact .inl h
      · exact .inr (.inr h)
      · exact .inr (.inl h)
  have hR : tbR m (T.set i (insL (T.getD i []) e)) = true := tbR_set h hil (by rw [hI]; exact hmid.1) (fun x hx => by
    rcases (hmem x).1 hx with hx | rfl
    · exact hshi.2 x hx
    · exact hi) (by omega)
  have c := lk_this (L := insL (T.getD i []) e) hil hi
  rw [e1]
  refine ⟨e2.trans hc, hR, by omega, by rw [c.1, hI]; exact hmid.2.2.1, by rw [c.2, hI]; exact hmid.2.1, fun x => ?_, fun s r hn => ?_⟩
  · rw [mem_flat, mem_flat, List.length_set]
    constructor
    · rintro ⟨j, hj, hx⟩
      rw [getD_set hil] at hx
      split at hx
      · rcases (hmem x).1 hx with hx | hx
        · exact .inl ⟨i, hil, hx⟩
        · exact .inr hx
      · exact .inl ⟨j, hj, hx⟩
    · rintro (⟨j, hj, hx⟩ | rfl)
      · refine ⟨j, hj, ?_⟩
        rw [getD_set hil]
        split
        · rename_i e; subst e; exact (hmem x).2 (.inl hx)
        · exact hx
      · exact ⟨i, hil, by rw [getD_set hil, if_pos rfl]; exact (hmem x).2 (.inr rfl)⟩
  · refine lk_other (T := T) (L := insL (T.getD i []) e) (s := s) (r := r) hil fun hs => ?_
    have e3 : shl T s r = T.getD i [] := by unfold shl; rw [hs]; rfl
    have o := Sp.oth (A := A) (B := B) (s := 0) (r := []) hn
    have q1 : fnd (T.getD i []) s r = fnd (A ++ B) s r := congrArg (fun l => fnd l s r) hLL
    have q2 : has (T.getD i []) s r = has (A ++ B) s r := congrArg (fun l => has l s r) hLL
    rw [e3, hI, q1, q2]
    exact o
end Go.Vd

set_option linter.unusedVariables false
set_option linter.unusedSimpArgs false
set_option maxRecDepth 100000
set_option maxHeartbeats 8000000
namespace Go.Vd
open Go.Proofs
theorem enQ_of {e : Ent} (h : shE e = true) (hs : 0 ≤ e.s ∧ e.s < 4294967296) : enQ e := by
  simp only [shE, decide_eq_true_eq] at h
  exact ⟨hs, by omega, by omega, by omega⟩
theorem tbQ_sh {T : Tbl} (h : tSh T = true) (hS : ∀ i j, 0 ≤ ((T.getD i []).getD j E0).s ∧ ((T.getD i []).getD j E0).s < 4294967296) : tbQ T := by
  unfold tSh at h
  simp only [Bool.and_eq_true, decide_eq_true_eq, List.all_eq_true] at h
  have hm : ∀ i, i < T.length → shL (T.getD i []) = true := fun i hi => by
    rw [List.getD_eq_getElem?_getD, List.getElem?_eq_getElem hi]
    exact h.2.1 _ (List.getElem_mem hi)
  have h0 : ∀ i, ¬i < T.length → T.getD i [] = [] := fun i hi => by rw [List.getD_eq_getElem?_getD, List.getElem?_eq_none (by omega)]; rfl
  refine ⟨by omega, fun i => ?_, fun i j => ?_⟩
  · by_cases hi : i < T.length
    · have := (shL_iff.1 (hm i hi)).1; omega
    · rw [h0 i hi]; simp
  · by_cases hi : i < T.length
    · by_cases hj : j < (T.getD i []).length
      · exact enQ_of ((shL_iff.1 (hm i hi)).2 _ (getD_mem hj)) (hS i j)
      · rw [List.getD_eq_getElem?_getD, List.getElem?_eq_none (by omega)]; exact enQ_0
    · rw [h0 i hi]; exact enQ_0
theorem sv_tab {a b c d : Bool} (h : (bif bif bif !a then true else !b then true else !c then true else !d) = false) : a = true ∧ b = true ∧ c = true ∧ d = true := by
  cases a <;> cases b <;> cases c <;> cases d <;> simp at h ⊢
theorem sv_first {a b c : Bool} (h : (true && (bif bif !a then true else !b then true else !c) == false) = true) : a = true := by
  cases a <;> simp at h ⊢
attribute [local irreducible] vc
theorem good_TableSwaps (m z s st am tr ca so : Int) (T : Tbl) (r pan code ro : List UInt8) (hT : T.length ≤ 9223372036854775807) (hTi : ∀ i, (T.getD i []).length ≤ 9223372036854775807) (hS : ∀ i j, 0 ≤ ((T.getD i []).getD j E0).s ∧ ((T.getD i []).getD j E0).s < 4294967296) (hs : 0 ≤ s ∧ s < 4294967296) (hso : 0 ≤ so ∧ so < 4294967296) : GoodP Tryd.prog gl0 4 [.agg [.int .i64 m, rowS eEs [] 1 std fun _ => T], .agg [.int .u32 s, .str r, .int .i64 st, .str pan, .int .u64 am, .str code, .int .i64 tr, .int .i64 ca], .int .i64 z, .agg [.int .u32 so, .str ro]] (.bool true) := by
  refine fn_sound' (T := seatT) (G := gvA) (X := noX) seatT_ok gvA_ok noX_ok noI_ok mixed Tryd.func4 (.one) (fun A => [.agg [.int .i64 m, rowS eEs [] 1 A fun _ => T], .agg [.int .u32 s, .str r, .int .i64 st, .str pan, .int .u64 am, .str code, .int .i64 tr, .int .i64 ca], .int .i64 z, .agg [.int .u32 so, .str ro]]) (fun A => .bool true) fun A hA => ?_
  cbv
  repeat' (first | with_reducible exact True.intro | with_reducible exact dr_ok hA (by kernel_rfl) | with_reducible refine And.intro ?_ ?_ | (intro hc; cbv))
  all_goals (subst hA; simp only [std_add, std_sub, std_mul, std_quo, std_rem, std_band, std_bor, std_bxor, std_shl, std_shr, std_eq, std_ne, std_lt, std_le, std_conv, std_not, std_beq, std_bne, std_ite, std_want, std_and2, std_sadd, std_seq, std_sne, std_slt, std_sle, std_sgt, std_sge, std_slen, std_sget, std_scut, std_ofNat, std_toNat, std_nsub, std_nadd, std_lenOf, std_nz, std_nneg, std_inb, std_upto, std_slt63, std_grow, std_imp, std_impN, std_tr, std_tb, std_ti, std_ts, std_tn, std_tp, std_nmin, std_makes, std_room, std_zeros, std_nilq, std_notq, std_eqi, std_eqn, std_eqb, std_eqs, std_eqv, std_cat, std_lst, std_rset, std_rcopy, std_shift, std_eqr, std_strOf, std_bytesOf, std_isB, std_zOf, zOf_int, std_isI, isI_int, std_getL, std_nmul, std_sOf, sOf_str, std_isS, isS_str, std_fadd, std_fsub, std_fav, std_fsv, std_feq, std_fne, std_flt, std_fle, std_fgt, std_fge, std_fOf, std_fTo, std_fTv, isRow_T, lstOf_T, isRow_V, lstOf_V] at *)
  all_goals first
    | done
    | (exfalso; revert hc; decide)
    | exact ⟨trivial, hT, hTi⟩
    | exact fun h => h
    | exact fun h => ⟨h, h⟩
    | exact fun h => by rw [h]; rfl
    | skip
  all_goals first
    | exact fun h => ⟨h, trivial, tbQ_sh (sv_first h) hS⟩
    | (obtain ⟨v1, v2, v3, v4⟩ := sv_tab (by assumption)
       have hQ := tbQ_sh v1 hS
       have hE : enQ ⟨s, r, st, pan, am, code, tr, ca⟩ := enQ_of v2 hs
       have hQs := tbQ_sw (m := m) (z := z) hQ hE
       have hQr := tbQ_rt (m := m) (s := s) (r := r) hQ
       clear hS hT hTi
       first
         | exact ⟨⟨trivial, hQ⟩, hs⟩
         | exact ⟨⟨trivial, hQ⟩, hso⟩
         | exact ⟨⟨trivial, hQ⟩, hE⟩
         | exact ⟨⟨trivial, hQs⟩, hs⟩
         | exact ⟨⟨trivial, hQs⟩, hso⟩
         | exact ⟨⟨trivial, hQr⟩, hs⟩
         | exact ⟨⟨trivial, hQr⟩, hso⟩
         | exact ⟨⟨trivial, trivial⟩, hQs⟩
         | exact ⟨⟨trivial, trivial⟩, hQr⟩
         | exact fun h => ⟨h, trivial, hQ⟩
         | exact fun h => ⟨h, trivial, hQs⟩
         | exact fun h => ⟨h, trivial, hQr⟩
         | exact fun h => ⟨h, h, trivial, hQ⟩
         | exact fun h => ⟨h, hE.2.2⟩
         | (clear hQ hE hQs hQr v1 v2 v3
            have l1 := allT_len v4
            first
            | have h0 : ¬tSwC m T z ⟨s, r, st, pan, am, code, tr, ca⟩ = 0 := by
                have q : (tSwC m T z ⟨s, r, st, pan, am, code, tr, ca⟩ == 0) = false := by assumption
                simpa using q
              have g := tsw_no v4 h0
              dsimp only at g
              obtain ⟨g1, g2⟩ := g
              exfalso
              have hx : (bif !decide (True ∧ tSwT m T z ⟨s, r, st, pan, am, code, tr, ca⟩ = T) then true else bif bif eR ⟨s, r, st, pan, am, code, tr, ca⟩ then tHas m T s r else false then (tFnd m T s r).st == z else false) = true := hc
              rw [g1] at hx
              simp at hx
              exact g2 hx.1.1 hx.1.2 hx.2
            | have h0 : tSwC m T z ⟨s, r, st, pan, am, code, tr, ca⟩ = 0 := by
                have q : (tSwC m T z ⟨s, r, st, pan, am, code, tr, ca⟩ == 0) = true := by assumption
                simpa using q
              have g := tsw_spec v4 h0
              dsimp only at g
              obtain ⟨g1, g2, g3, g4, g5, g6⟩ := g
              by_cases ho : s = so ∧ r = ro
              · obtain ⟨rfl, rfl⟩ := ho
                clear g6
                by_cases c0 : tRtC m T s r = 0
                · obtain ⟨d1, d2, d3, d4⟩ := trt_spec v4 c0
                  have l2 := allT_len d1
                  have l3 : IntKind.i64.wrap ((cnt T : Int) - 1) = (cnt (tRtT m T s r) : Int) := by have := (tbR_cnt v4).1; rw [w64 (by omega)]; omega
                  clear d3 d4
                  simp [h0, g1, g2, g3, g4, g5, v4, c0, d1, d2, l1, l2, l3] at *
                · have d := trt_no v4 c0
                  have d2 := d.2 g1
                  unfold stW at d2
                  simp [h0, g1, g2, g3, g4, g5, v4, c0, d.1] at *
                  try omega
              · obtain ⟨o1, o2⟩ := g6 so ro ho
                have hb : (so == s && (ro == r && true)) = false := by
                  rw [Bool.eq_false_iff]
                  intro h
                  simp at h
                  exact ho ⟨h.1.symm, h.2.symm⟩
                clear g6
                by_cases c0 : tRtC m T s r = 0
                · obtain ⟨d1, d2, d3, d4⟩ := trt_spec v4 c0
                  obtain ⟨o3, o4⟩ := d4 so ro ho
                  have l2 := allT_len d1
                  have l3 : IntKind.i64.wrap ((cnt T : Int) - 1) = (cnt (tRtT m T s r) : Int) := by have := (tbR_cnt v4).1; rw [w64 (by omega)]; omega
                  clear d3 d4 ho
                  simp only [hb] at *
                  simp [h0, g1, g2, g3, g4, g5, v4, o1, o2, o3, o4, c0, d1, d2, l1, l2, l3] at *
                · have d := trt_no v4 c0
                  have d2 := d.2 g1
                  unfold stW at d2
                  clear ho
                  simp only [hb] at *
                  simp [h0, g1, g2, g3, g4, g5, v4, o1, o2, c0, d.1] at *
                  try omega
            | have h0 : ¬tSwC m T z ⟨s, r, st, pan, am, code, tr, ca⟩ = 0 := by
                have q : (tSwC m T z ⟨s, r, st, pan, am, code, tr, ca⟩ == 0) = false := by assumption
                simpa using q
              have g := tsw_no v4 h0
              dsimp only at g
              obtain ⟨g1, g2⟩ := g
              rw [g1] at *
              have gq : tHas m T s r = true → (eR ⟨s, r, st, pan, am, code, tr, ca⟩ && (tFnd m T s r).st == z) = false := fun h => by
                cases he : eR ⟨s, r, st, pan, am, code, tr, ca⟩
                · rfl
                · have := g2 he h
                  simp [this]
              cases hH : tHas m T s r
              · have c0 : ¬tRtC m T s r = 0 := fun c0 => by
                  obtain ⟨d1, d2, d3, d4⟩ := trt_spec v4 c0
                  cases hl : lkB T s r
                  · rw [(tRt_5 v4 hl).2] at c0; cases c0
                  · rw [(tf_y (s := s) (r := r) v4).2, hl] at hH; cases hH
                have d := trt_no v4 c0
                simp [h0, hH, v4, c0, d.1] at *
              · have gr := gq hH
                simp only [Bool.and_eq_false_imp] at gr
                by_cases ho : s = so ∧ r = ro
                · obtain ⟨rfl, rfl⟩ := ho
                  by_cases c0 : tRtC m T s r = 0
                  · obtain ⟨d1, d2, d3, d4⟩ := trt_spec v4 c0
                    have l2 := allT_len d1
                    have l3 : IntKind.i64.wrap ((cnt T : Int) - 1) = (cnt (tRtT m T s r) : Int) := by have := (tbR_cnt v4).1; rw [w64 (by omega)]; omega
                    clear d3 d4
                    simp [h0, hH, v4, c0, d1, d2, l1, l2, l3] at *
                    try (first | exact absurd hc.2 (gr hc.1) | exact gr | exact fun h => gr h | exact absurd hc.2 (gr hc.1) | (intro h; simp [gr h]; done))
                  · have d := trt_no v4 c0
                    have d2 := d.2 hH
                    unfold stW at d2
                    simp [h0, hH, v4, c0, d.1] at *
                    try (first | omega | exact gr | exact fun h => gr h | exact absurd hc.2 (gr hc.1) | (intro h; simp [gr h]; done))
                · have hb : (so == s && (ro == r && true)) = false := by
                    rw [Bool.eq_false_iff]
                    intro h
                    simp at h
                    exact ho ⟨h.1.symm, h.2.symm⟩
                  by_cases c0 : tRtC m T s r = 0
                  · obtain ⟨d1, d2, d3, d4⟩ := trt_spec v4 c0
                    obtain ⟨o3, o4⟩ := d4 so ro ho
                    have l2 := allT_len d1
                    have l3 : IntKind.i64.wrap ((cnt T : Int) - 1) = (cnt (tRtT m T s r) : Int) := by have := (tbR_cnt v4).1; rw [w64 (by omega)]; omega
                    clear d3 d4 ho
                    simp only [hb] at *
                    simp [h0, hH, v4, o3, o4, c0, d1, d2, l1, l2, l3] at *
                    try (first | exact absurd hc.2 (gr hc.1) | exact gr | exact fun h => gr h | exact absurd hc.2 (gr hc.1) | (intro h; simp [gr h]; done))
                  · have d := trt_no v4 c0
                    have d2 := d.2 hH
                    unfold stW at d2
                    clear ho
                    simp only [hb] at *
                    simp [h0, hH, v4, c0, d.1] at *
                    try (first | omega | exact gr | exact fun h => gr h | exact absurd hc.2 (gr hc.1) | (intro h; simp [gr h]; done)))
         | trace_state)
    | trace_state
end Go.Vd

set_option linter.unusedVariables false
set_option linter.unusedSimpArgs false
set_option maxRecDepth 100000
set_option maxHeartbeats 8000000
namespace Go.Vd
open Go.Proofs
theorem flat_rep (n : Nat) : (List.replicate n ([] : List Ent)).flatten = [] := by
  rw [List.flatten_eq_nil_iff]
  intro l hl
  exact (List.mem_replicate.1 hl).2
theorem tbR_new {m n : Int} (h : szR m n = true) : tbR m (newT m n) = true ∧ (newT m n).flatten = [] ∧ tbQ (newT m n) := by
  have h0 := (new_y h).2.1
  have h1 : 0 ≤ m ∧ m ≤ 128 ∧ 1 ≤ n ∧ n ≤ 16 := by simp [szR] at h; omega
  have hl : (List.replicate n.toNat ([] : List Ent)).length = n.toNat := List.length_replicate
  have hg : ∀ i, (List.replicate n.toNat ([] : List Ent)).getD i [] = [] := fun i => by
    rw [List.getD_eq_getElem?_getD, List.getElem?_replicate]
    split <;> rfl
  have hcn : cnt (List.replicate n.toNat ([] : List Ent)) = 0 := by rw [← flat_len, flat_rep]; rfl
  rw [h0]
  refine ⟨?_, flat_rep _, by rw [hl]; omega, fun i => by rw [hg]; simp, fun i j => by rw [hg, List.getD_nil]; exact enQ_0⟩
  unfold tbR
  rw [hl, hcn, show ((n.toNat : Nat) : Int) = n by omega, h, Bool.true_and, Bool.and_eq_true, List.all_eq_true]
  refine ⟨fun i _ => ?_, decide_eq_true (by omega)⟩
  unfold shOk
  rw [hg]
  rfl
theorem eta_E (e : Ent) : (⟨e.s, e.r, e.st, e.pan, e.am, e.code, e.tr, e.ca⟩ : Ent) = e := rfl
theorem rem_m {a n : Int} (ha : 0 ≤ a ∧ a < 256) (hn : 0 < n) : std.rem (std.conv .i64 a) n = a % n := by
  show (IntKind.i64.wrap a).tmod n = a % n
  rw [w64 (by omega), Int.tmod_eq_emod_of_nonneg (by omega)]
theorem add_1 {b : Int} (hb : 0 ≤ b ∧ b < 256) : std.add .i64 (std.rem (std.conv .i64 b) 16) 1 = b % 16 + 1 := by
  rw [rem_m hb (by decide)]
  exact w64 (by omega)
structure Hd (L : List Ent) (m : Int) (i : Nat) (T U : Tbl) : Prop where
  le : i ≤ L.length
  rt : tbR m T = true
  ru : tbR m U = true
  mem : ∀ x, x ∈ T.flatten ↔ x ∈ U.flatten
  qt : tbQ T
  qu : tbQ U
theorem hd_step {L : List Ent} {m : Int} {i : Nat} {T U : Tbl} (h : Hd L m i T U) (hi : i < L.length) {e : Ent} (he : enQ e) :
    Hd L m (i + 1) (tInsT m T e) (tInsT m U e) ∧ tInsC m U e = tInsC m T e ∧
    ((tInsC m T e = 0 ∧ eR e = true ∧ lkB T e.s e.r = false ∧ (cnt T : Int) < m ∧ lkE (tInsT m T e) e.s e.r = e ∧ lkB (tInsT m T e) e.s e.r = true ∧ cnt (tInsT m T e) = cnt T + 1) ∨
     (tInsC m T e = 1 ∧ eR e = false ∧ tInsT m T e = T) ∨ (tInsC m T e = 6 ∧ eR e = true ∧ lkB T e.s e.r = true ∧ tInsT m T e = T) ∨ (tInsC m T e = 7 ∧ eR e = true ∧ lkB T e.s e.r = false ∧ ¬(cnt T : Int) < m ∧ tInsT m T e = T)) := by
  have hcn := (all_same h.rt h.ru h.mem).2
  have hb : lkB U e.s e.r = lkB T e.s e.r := by
    rw [Bool.eq_iff_iff, lkB_iff h.ru, lkB_iff h.rt]
    exact ⟨fun ⟨x, hx, hk⟩ => ⟨x, (h.mem x).2 hx, hk⟩, fun ⟨x, hx, hk⟩ => ⟨x, (h.mem x).1 hx, hk⟩⟩
  cases hE : eR e
  · obtain ⟨a1, a2⟩ := tins_bad (m := m) (T := T) hE
    obtain ⟨b1, b2⟩ := tins_bad (m := m) (T := U) hE
    rw [a1, a2, b1, b2]
    exact ⟨⟨hi, h.rt, h.ru, h.mem, h.qt, h.qu⟩, rfl, .inr (.inl ⟨rfl, rfl, rfl⟩)⟩
  cases hB : lkB T e.s e.r
  · by_cases hc : m ≤ (cnt T : Int)
    · obtain ⟨a1, a2⟩ := tins_full h.rt hE hB hc
      obtain ⟨b1, b2⟩ := tins_full h.ru hE (hb.trans hB) (by omega)
      rw [a1, a2, b1, b2]
      exact ⟨⟨hi, h.rt, h.ru, h.mem, h.qt, h.qu⟩, rfl, .inr (.inr (.inr ⟨rfl, rfl, rfl, by omega, rfl⟩))⟩
    · obtain ⟨a1, a2, a3, a4, a5, a6, _⟩ := tins_put h.rt hE hB hc
      obtain ⟨b1, b2, b3, b4, b5, b6, _⟩ := tins_put h.ru hE (hb.trans hB) (by omega)
      rw [a1, b1]
      exact ⟨⟨hi, a2, b2, fun x => by rw [a6, b6, h.mem], tbQ_ins h.qt he, tbQ_ins h.qu he⟩, rfl, .inl ⟨rfl, rfl, rfl, by omega, a4, a5, a3⟩⟩
  · obtain ⟨a1, a2⟩ := tins_seen h.rt hE hB
    obtain ⟨b1, b2⟩ := tins_seen h.ru hE (hb.trans hB)
    rw [a1, a2, b1, b2]
    exact ⟨⟨hi, h.rt, h.ru, h.mem, h.qt, h.qu⟩, rfl, .inr (.inr (.inl ⟨rfl, rfl, rfl, rfl⟩))⟩
attribute [local irreducible] vc
theorem good_TableHolds (a b c : Int) (L : List Ent) (ha : 0 ≤ a ∧ a < 256) (hb : 0 ≤ b ∧ b < 256) (hcc : 0 ≤ c ∧ c < 256) (hL : L.length ≤ 9223372036854775807) (hS : ∀ i, enB (L.getD i E0)) : GoodP Tryd.prog gl0 3 [.int .u8 a, .int .u8 b, .int .u8 c, rowS eE E0 8 std fun _ => L] (.bool true) := by
  refine fn_sound' (T := seatT) (G := gvA) (X := noX) seatT_ok gvA_ok noX_ok noI_ok mixed Tryd.func3 (.one) (fun A => [.int .u8 a, .int .u8 b, .int .u8 c, rowS eE E0 8 A fun _ => L]) (fun A => .bool true) fun A hA => ?_
  obtain ⟨m, hm⟩ : ∃ m, m = a % 129 := ⟨_, rfl⟩
  have e1 : std.rem (std.conv .i64 a) 129 = m := (rem_m ha (by decide)).trans hm.symm
  have e2 := add_1 hb
  have e3 := add_1 hcc
  have z2 : szR m (b % 16 + 1) = true := by simp [szR]; omega
  have z3 : szR m (c % 16 + 1) = true := by simp [szR]; omega
  have n2 := new_y z2
  have n3 := new_y z3
  have t2 := tbR_new z2
  have t3 := tbR_new z3
  obtain ⟨T0, hT0⟩ : ∃ T0, T0 = newT m (b % 16 + 1) := ⟨_, rfl⟩
  obtain ⟨U0, hU0⟩ : ∃ U0, U0 = newT m (c % 16 + 1) := ⟨_, rfl⟩
  rw [← hT0] at t2
  rw [← hU0] at t3
  cbv
  repeat' (first | with_reducible exact True.intro | with_reducible exact dr_ok hA (by kernel_rfl) | with_reducible refine And.intro ?_ ?_ | (intro hc; cbv))
  all_goals first
    | (fail_if_success (refine Exists.intro ?_ ?_)
       subst hA
       simp only [e1, e2, e3] at *
       simp only [std_add, std_sub, std_mul, std_quo, std_rem, std_band, std_bor, std_bxor, std_shl, std_shr, std_eq, std_ne, std_lt, std_le, std_conv, std_not, std_beq, std_bne, std_ite, std_want, std_and2, std_sadd, std_seq, std_sne, std_slt, std_sle, std_sgt, std_sge, std_slen, std_sget, std_scut, std_ofNat, std_toNat, std_nsub, std_nadd, std_lenOf, std_nz, std_nneg, std_inb, std_upto, std_slt63, std_grow, std_imp, std_impN, std_tr, std_tb, std_ti, std_ts, std_tn, std_tp, std_nmin, std_makes, std_room, std_zeros, std_nilq, std_notq, std_eqi, std_eqn, std_eqb, std_eqs, std_eqv, std_cat, std_lst, std_rset, std_rcopy, std_shift, std_eqr, std_strOf, std_bytesOf, std_isB, std_zOf, zOf_int, std_isI, isI_int, std_getL, std_nmul, std_sOf, sOf_str, std_isS, isS_str, std_fadd, std_fsub, std_fav, std_fsv, std_feq, std_fne, std_flt, std_fle, std_fgt, std_fge, std_fOf, std_fTo, std_fTv, isRow_V, lstOf_V, n2.1, n2.2.2, n3.1, n3.2.2] at *
       first
         | done
         | decide
         | (exfalso; revert hc; decide)
         | exact fun h => ⟨h, trivial, hL⟩
         | exact fun h => h
         | exact fun h => ⟨h, h⟩
         | exact fun h => by rw [h]; rfl
         | trace_state)
    | skip
  have hsh : ¬60 < L.length ∧ shL L = true := by
    rename_i h0
    subst hA
    simp only [std_add, std_sub, std_mul, std_quo, std_rem, std_band, std_bor, std_bxor, std_shl, std_shr, std_eq, std_ne, std_lt, std_le, std_conv, std_not, std_beq, std_bne, std_ite, std_want, std_and2, std_sadd, std_seq, std_sne, std_slt, std_sle, std_sgt, std_sge, std_slen, std_sget, std_scut, std_ofNat, std_toNat, std_nsub, std_nadd, std_lenOf, std_nz, std_nneg, std_inb, std_upto, std_slt63, std_grow, std_imp, std_impN, std_tr, std_tb, std_ti, std_ts, std_tn, std_tp, std_nmin, std_makes, std_room, std_zeros, std_nilq, std_notq, std_eqi, std_eqn, std_eqb, std_eqs, std_eqv, std_cat, std_lst, std_rset, std_rcopy, std_shift, std_eqr, std_strOf, std_bytesOf, std_isB, std_zOf, zOf_int, std_isI, isI_int, std_getL, std_nmul, std_sOf, sOf_str, std_isS, isS_str, std_fadd, std_fsub, std_fav, std_fsv, std_feq, std_fne, std_flt, std_fle, std_fgt, std_fge, std_fOf, std_fTo, std_fTv, isRow_V, lstOf_V] at h0
    simp at h0
    exact ⟨by omega, h0.2⟩
  refine ⟨⟨{p : Nat × Tbl × Tbl // Hd L m p.1 p.2.1 p.2.2}, fun b p => [(13, .int .i64 (p.1.1 : Nat))], fun b p => [(22, .box 27 [.int .i64 m, rowS eEs [] 1 A fun _ => p.1.2.1]), (36, .box 27 [.int .i64 m, rowS eEs [] 1 A fun _ => p.1.2.2])], fun p => L.length - p.1.1, true⟩, ⟨⟨(0, T0, U0), ⟨Nat.zero_le _, t2.1, t3.1, fun x => by rw [t2.2.1, t3.2.1], t2.2.2, t3.2.2⟩⟩, ?_⟩, ?_⟩
  · cbv
    subst hA
    simp only [e1, e2, e3]
    simp [-List.getD_eq_getElem?_getD, std_add, std_sub, std_mul, std_quo, std_rem, std_band, std_bor, std_bxor, std_shl, std_shr, std_eq, std_ne, std_lt, std_le, std_conv, std_not, std_beq, std_bne, std_ite, std_want, std_and2, std_sadd, std_seq, std_sne, std_slt, std_sle, std_sgt, std_sge, std_slen, std_sget, std_scut, std_ofNat, std_toNat, std_nsub, std_nadd, std_lenOf, std_nz, std_nneg, std_inb, std_upto, std_slt63, std_grow, std_imp, std_impN, std_tr, std_tb, std_ti, std_ts, std_tn, std_tp, std_nmin, std_makes, std_room, std_zeros, std_nilq, std_notq, std_eqi, std_eqn, std_eqb, std_eqs, std_eqv, std_cat, std_lst, std_rset, std_rcopy, std_shift, std_eqr, std_strOf, std_bytesOf, std_isB, std_zOf, zOf_int, std_isI, isI_int, std_getL, std_nmul, std_sOf, sOf_str, std_isS, isS_str, std_fadd, std_fsub, std_fav, std_fsv, std_feq, std_fne, std_flt, std_fle, std_fgt, std_fge, std_fOf, std_fTo, std_fTv, n2.1, n3.1, ← hT0, ← hU0]
  · rintro ⟨⟨i, T, U⟩, hx⟩
    have hH : Hd L m i T U := hx
    have hi := hH.le
    have lt1 := allT_len hH.rt
    have lu1 := allT_len hH.ru
    have hcn := tbR_cnt hH.rt
    obtain ⟨e, he⟩ : ∃ e, e = L.getD i E0 := ⟨_, rfl⟩
    have hg : L.getD i { s := 0, r := [], st := 0, pan := [], am := 0, code := [], tr := 0, ca := 0 } = e := he.symm
    rcases Nat.lt_or_ge i L.length with hlt | hge
    · have hE : enQ e := by
        have h1 := (shL_iff.1 hsh.2).2 (L.getD i E0) (getD_mem hlt)
        rw [he]
        exact enQ_of h1 (hS i)
      obtain ⟨hN, hC, hK⟩ := hd_step hH hlt hE
      obtain ⟨i', hi'⟩ : ∃ i', i' = i + 1 := ⟨_, rfl⟩
      rw [← hi'] at hN
      obtain ⟨T', hT'⟩ : ∃ T', T' = tInsT m T e := ⟨_, rfl⟩
      obtain ⟨U', hU'⟩ : ∃ U', U' = tInsT m U e := ⟨_, rfl⟩
      rw [← hT', ← hU'] at hN
      rw [← hT'] at hK
      have lt2 := allT_len hN.rt
      have lu2 := allT_len hN.ru
      have q1 := tf_y (s := e.s) (r := e.r) hH.rt
      have q2 := tf_y (s := e.s) (r := e.r) hN.rt
      have l3 : IntKind.i64.wrap ((cnt T : Int) + 1) = ((cnt T + 1 : Nat) : Int) := by rw [w64 (by omega)]; omega
      cbv
      repeat' (first | with_reducible exact True.intro | with_reducible exact dr_ok hA (by kernel_rfl) | with_reducible refine And.intro ?_ ?_ | (intro hc; cbv))
      all_goals first
        | (fail_if_success (refine Exists.intro ?_ ?_)
           subst hA
           simp only [std_add, std_sub, std_mul, std_quo, std_rem, std_band, std_bor, std_bxor, std_shl, std_shr, std_eq, std_ne, std_lt, std_le, std_conv, std_not, std_beq, std_bne, std_ite, std_want, std_and2, std_sadd, std_seq, std_sne, std_slt, std_sle, std_sgt, std_sge, std_slen, std_sget, std_scut, std_ofNat, std_toNat, std_nsub, std_nadd, std_lenOf, std_nz, std_nneg, std_inb, std_upto, std_slt63, std_grow, std_imp, std_impN, std_tr, std_tb, std_ti, std_ts, std_tn, std_tp, std_nmin, std_makes, std_room, std_zeros, std_nilq, std_notq, std_eqi, std_eqn, std_eqb, std_eqs, std_eqv, std_cat, std_lst, std_rset, std_rcopy, std_shift, std_eqr, std_strOf, std_bytesOf, std_isB, std_zOf, zOf_int, std_isI, isI_int, std_getL, std_nmul, std_sOf, sOf_str, std_isS, isS_str, std_fadd, std_fsub, std_fav, std_fsv, std_feq, std_fne, std_flt, std_fle, std_fgt, std_fge, std_fOf, std_fTo, std_fTv, Int.ofNat_eq_natCast, Int.toNat_natCast, isRow_V, lstOf_V, isRow_T, lstOf_T, hg, eta_E, hC, ← hT', ← hU', lt1, lt2, lu1, lu2, q1.1, q1.2, q2.1, q2.2] at *
           first
             | done
             | exact ⟨trivial, hH.qt⟩
             | exact ⟨trivial, hN.qt⟩
             | exact ⟨Int.natCast_nonneg _, Int.ofNat_lt.2 hlt⟩
             | exact ⟨⟨trivial, hH.qt⟩, hE.1⟩
             | exact ⟨⟨trivial, hH.qt⟩, hE⟩
             | exact ⟨⟨trivial, hH.qu⟩, hE⟩
             | exact ⟨⟨trivial, hN.qt⟩, hE.1⟩
             | exact hE.2.2
             | exact fun h => h
             | exact fun h => ⟨h, h⟩
             | exact fun h => ⟨⟨h, h⟩, Int.natCast_nonneg _, Int.ofNat_lt.2 hlt⟩
             | exact fun h => ⟨h, trivial, hN.qt⟩
             | exact fun h => ⟨h, trivial, hH.qt⟩
             | exact fun h => ⟨h, fun h2 => by rw [h, h2]; rfl⟩
             | exact fun h => by rw [h]; rfl
             | (exfalso; have := of_decide_eq_false (by assumption : decide ((i : Int) < (L.length : Int)) = false); omega)
             | (clear hS hsh ha hb hcc hL z2 z3 n2 n3 t2 t3 hT0 hU0
                have r2 := hN.rt
                rcases hK with ⟨k1, k2, k3, k4, k5, k6, k7⟩ | ⟨k1, k2, k3⟩ | ⟨k1, k2, k3, k4⟩ | ⟨k1, k2, k3, k4, k5⟩
                · simp [k1, k2, k3, k4, k5, k6, k7, l3, r2] at *
                · simp [k1, k2, r2] at *
                · simp [k1, k2, k3, r2] at *
                · simp [k1, k2, k3, k4, r2] at *)
             | trace_state)
        | (exfalso
           subst hA
           simp only [std_add, std_sub, std_mul, std_quo, std_rem, std_band, std_bor, std_bxor, std_shl, std_shr, std_eq, std_ne, std_lt, std_le, std_conv, std_not, std_beq, std_bne, std_ite, std_want, std_and2, std_sadd, std_seq, std_sne, std_slt, std_sle, std_sgt, std_sge, std_slen, std_sget, std_scut, std_ofNat, std_toNat, std_nsub, std_nadd, std_lenOf, std_nz, std_nneg, std_inb, std_upto, std_slt63, std_grow, std_imp, std_impN, std_tr, std_tb, std_ti, std_ts, std_tn, std_tp, std_nmin, std_makes, std_room, std_zeros, std_nilq, std_notq, std_eqi, std_eqn, std_eqb, std_eqs, std_eqv, std_cat, std_lst, std_rset, std_rcopy, std_shift, std_eqr, std_strOf, std_bytesOf, std_isB, std_zOf, zOf_int, std_isI, isI_int, std_getL, std_nmul, std_sOf, sOf_str, std_isS, isS_str, std_fadd, std_fsub, std_fav, std_fsv, std_feq, std_fne, std_flt, std_fle, std_fgt, std_fge, std_fOf, std_fTo, std_fTv, Int.ofNat_eq_natCast, Int.toNat_natCast, isRow_V, lstOf_V, isRow_T, lstOf_T, hg, eta_E, hC, ← hT', ← hU', lt1, lt2, lu1, lu2, q1.1, q1.2, q2.1, q2.2] at *
           have := of_decide_eq_false (by assumption : decide ((i : Int) < (L.length : Int)) = false); omega)
        | (refine ⟨⟨(i', T', U'), hN⟩, ?_, show L.length - i' < L.length - i by omega⟩
           cbv
           subst hA
           simp only [e1, e2, e3]
           simp [-List.getD_eq_getElem?_getD, std_add, std_sub, std_mul, std_quo, std_rem, std_band, std_bor, std_bxor, std_shl, std_shr, std_eq, std_ne, std_lt, std_le, std_conv, std_not, std_beq, std_bne, std_ite, std_want, std_and2, std_sadd, std_seq, std_sne, std_slt, std_sle, std_sgt, std_sge, std_slen, std_sget, std_scut, std_ofNat, std_toNat, std_nsub, std_nadd, std_lenOf, std_nz, std_nneg, std_inb, std_upto, std_slt63, std_grow, std_imp, std_impN, std_tr, std_tb, std_ti, std_ts, std_tn, std_tp, std_nmin, std_makes, std_room, std_zeros, std_nilq, std_notq, std_eqi, std_eqn, std_eqb, std_eqs, std_eqv, std_cat, std_lst, std_rset, std_rcopy, std_shift, std_eqr, std_strOf, std_bytesOf, std_isB, std_zOf, zOf_int, std_isI, isI_int, std_getL, std_nmul, std_sOf, sOf_str, std_isS, isS_str, std_fadd, std_fsub, std_fav, std_fsv, std_feq, std_fne, std_flt, std_fle, std_fgt, std_fge, std_fOf, std_fTo, std_fTv, hg, eta_E, lstOf_T, ← hT', ← hU']
           first | exact w_succ' hi' (by omega) | trace_state)
        | trace_state
    · have hie : i = L.length := by omega
      have hAll := all_same hH.rt hH.ru hH.mem
      cbv
      repeat' (first | with_reducible exact True.intro | with_reducible exact dr_ok hA (by kernel_rfl) | with_reducible refine And.intro ?_ ?_ | (intro hc; cbv))
      all_goals first
        | (fail_if_success (refine Exists.intro ?_ ?_)
           subst hA
           simp only [std_add, std_sub, std_mul, std_quo, std_rem, std_band, std_bor, std_bxor, std_shl, std_shr, std_eq, std_ne, std_lt, std_le, std_conv, std_not, std_beq, std_bne, std_ite, std_want, std_and2, std_sadd, std_seq, std_sne, std_slt, std_sle, std_sgt, std_sge, std_slen, std_sget, std_scut, std_ofNat, std_toNat, std_nsub, std_nadd, std_lenOf, std_nz, std_nneg, std_inb, std_upto, std_slt63, std_grow, std_imp, std_impN, std_tr, std_tb, std_ti, std_ts, std_tn, std_tp, std_nmin, std_makes, std_room, std_zeros, std_nilq, std_notq, std_eqi, std_eqn, std_eqb, std_eqs, std_eqv, std_cat, std_lst, std_rset, std_rcopy, std_shift, std_eqr, std_strOf, std_bytesOf, std_isB, std_zOf, zOf_int, std_isI, isI_int, std_getL, std_nmul, std_sOf, sOf_str, std_isS, isS_str, std_fadd, std_fsub, std_fav, std_fsv, std_feq, std_fne, std_flt, std_fle, std_fgt, std_fge, std_fOf, std_fTo, std_fTv, Int.ofNat_eq_natCast, Int.toNat_natCast, isRow_V, lstOf_V, isRow_T, lstOf_T, hg, eta_E] at *
           first
             | done
             | (exfalso; have := of_decide_eq_true (by assumption : decide ((i : Int) < (L.length : Int)) = true); omega)
             | exact ⟨trivial, hH.qt⟩
             | exact ⟨trivial, hH.qu⟩
             | exact ⟨⟨trivial, trivial⟩, by rw [lt1]; omega⟩
             | exact fun h => h
             | exact fun h => ⟨h, h⟩
             | exact fun h => ⟨h, trivial, hH.qt⟩
             | exact fun h => by rw [h]; rfl
             | (rw [decide_eq_true hAll.1, lt1, decide_eq_true hcn.2.1]; rfl)
             | trace_state)
        | (exfalso
           subst hA
           simp only [std_add, std_sub, std_mul, std_quo, std_rem, std_band, std_bor, std_bxor, std_shl, std_shr, std_eq, std_ne, std_lt, std_le, std_conv, std_not, std_beq, std_bne, std_ite, std_want, std_and2, std_sadd, std_seq, std_sne, std_slt, std_sle, std_sgt, std_sge, std_slen, std_sget, std_scut, std_ofNat, std_toNat, std_nsub, std_nadd, std_lenOf, std_nz, std_nneg, std_inb, std_upto, std_slt63, std_grow, std_imp, std_impN, std_tr, std_tb, std_ti, std_ts, std_tn, std_tp, std_nmin, std_makes, std_room, std_zeros, std_nilq, std_notq, std_eqi, std_eqn, std_eqb, std_eqs, std_eqv, std_cat, std_lst, std_rset, std_rcopy, std_shift, std_eqr, std_strOf, std_bytesOf, std_isB, std_zOf, zOf_int, std_isI, isI_int, std_getL, std_nmul, std_sOf, sOf_str, std_isS, isS_str, std_fadd, std_fsub, std_fav, std_fsv, std_feq, std_fne, std_flt, std_fle, std_fgt, std_fge, std_fOf, std_fTo, std_fTv, Int.ofNat_eq_natCast, Int.toNat_natCast] at *
           have := of_decide_eq_true (by assumption : decide ((i : Int) < (L.length : Int)) = true); omega)
        | trace_state
end Go.Vd

set_option linter.unusedVariables false
namespace Go.Vd
open Go.Proofs Go.ChangeShapes Go.WideShapes Go.ChangeAt Go.RowKit Go.Joins Go.Deep Go.WideElems
theorem u16_wf {z : Int} (h : (Lit.int .u16 z).wf = true) : 0 ≤ z ∧ z < 65536 := by
  simp [Lit.wf] at h
  have e1 : IntKind.u16.min = 0 := by decide
  have e2 : IntKind.u16.max = 65535 := by decide
  rw [e1, e2] at h
  exact ⟨h.1, by omega⟩
section
variable {H : Type} {enc : TypeId × Value → H} {P : Program}
theorem open_eB_trod {W : World} {t e : TypeId} {v : Value} {fuel : Nat} {x : DataW H × List MemPlace} (ht : P.underlying t = some (.slice e)) (he : P.underlying e = some (.int .u8)) (hc : P.cellsOf e = 1)
    (h : DataW.trod enc P W 0 (fun _ => true) true fuel t [v] = some x) : ∃ L : List UInt8, L.length ≤ maxLen ∧ one v ∧ RelC W (fun _ => False) v (rowS eB 0 1 std fun _ => L) := by
  rcases open_ints ht he hc h with ⟨hcs, hx⟩ | ⟨a, len, cap, zs, hcs, _, hl, hm, hz, hx, hcell, hwz⟩
  · simp only [List.cons.injEq, and_true] at hcs
    subst hcs
    exact ⟨[], Nat.zero_le _, rfl, .slc none 0 0 1 _ (fun _ _ => undef) (Nat.le_refl _) (fun i j hi => absurd hi (by omega)) (fun h => absurd h (by omega)) (fun i j hi => absurd hi (by omega))⟩
  · simp only [List.cons.injEq, and_true] at hcs
    subst hcs
    simp only [if_true] at hz
    have hlen : ((zs.take len).map fun n => UInt8.ofNat n.toNat).length = len := by simp; omega
    refine ⟨(zs.take len).map fun n => UInt8.ofNat n.toNat, by rw [hlen]; omega, rfl, ?_⟩
    show RelC W (fun _ => False) _ (.slc ((zs.take len).map fun n => UInt8.ofNat n.toNat).length 1 (rowF eB 0 std fun _ => (zs.take len).map fun n => UInt8.ofNat n.toNat))
    rw [hlen]
    refine .slc (some a) len cap 1 _ (fun i _ => .int .u8 (zs.getD i 0)) hl (fun i j hi hj => ⟨a, rfl, ?_, rfl, fun h => h⟩) (fun h => ⟨a, rfl, ?_⟩) (fun i j hi hj => ?_)
    · rw [show i * 1 + j = i by omega]
      exact hcell i (by omega)
    · simpa [Addr.add] using World.cell?_spot (hcell 0 (by omega))
    · obtain rfl : j = 0 := by omega
      have hw := u8_wf (hwz (zs.getD i 0) (by rw [List.getD_eq_getElem?_getD, List.getElem?_eq_getElem (by omega)]; simp))
      have : (zs.getD i 0) = (((zs.take len).map fun n => UInt8.ofNat n.toNat).getD i 0).toNat := by
        rw [List.getD_eq_getElem?_getD, List.getD_eq_getElem?_getD, List.getElem?_map, List.getElem?_take_of_lt hi]
        rw [List.getD_eq_getElem?_getD] at hw
        rw [List.getElem?_eq_getElem (by omega)] at hw ⊢
        simp at hw ⊢
        omega
      show RelC W _ _ (SV.int .u8 _)
      rw [this]
      exact .int _ _
theorem array6 {α : Type} {cs : Array α} (h : cs.size = 6) : ∃ c0 c1 c2 c3 c4 c5, cs = #[c0, c1, c2, c3, c4, c5] := by
  obtain ⟨l⟩ := cs
  match l, h with
  | [c0, c1, c2, c3, c4, c5], _ => exact ⟨c0, c1, c2, c3, c4, c5, rfl⟩
theorem open_agg6 {W : World} {b0 base : Nat} {spare : Nat → Bool} {held : Bool} {r : Reach} {t : TypeId} {f0 f1 f2 f3 f4 f5 : Field} {v : Value} {d : DataW H} {p : List MemPlace} (hs : P.underlying t = some (.struct #[f0, f1, f2, f3, f4, f5])) (hone : oneCellFields P #[f0, f1, f2, f3, f4, f5] = true) (hC : P.cellsOf t = 6)
    (hv : Value.okWide P W r b0 t v) (h : DataW.Trod enc P W base spare held t v d p) :
    ∃ (v0 v1 v2 v3 v4 v5 : Value) (y0 y1 y2 y3 y4 y5 : DataW H × List MemPlace) (n : Nat), v = .agg #[v0, v1, v2, v3, v4, v5] ∧ d = .agg [y0.1, y1.1, y2.1, y3.1, y4.1, y5.1] ∧ p = y0.2 ++ (y1.2 ++ (y2.2 ++ (y3.2 ++ (y4.2 ++ y5.2)))) ∧
      DataW.trod enc P W base spare held n f0.type [v0] = some y0 ∧ DataW.trod enc P W base spare held n f1.type [v1] = some y1 ∧ DataW.trod enc P W base spare held n f2.type [v2] = some y2 ∧ DataW.trod enc P W base spare held n f3.type [v3] = some y3 ∧ DataW.trod enc P W base spare held n f4.type [v4] = some y4 ∧ DataW.trod enc P W base spare held n f5.type [v5] = some y5 := by
  obtain ⟨cs, rfl, hsz⟩ := okWide_struct hs hv
  obtain ⟨c0, c1, c2, c3, c4, c5, rfl⟩ := array6 (hsz.trans hC)
  obtain ⟨fuel, hf⟩ := h
  obtain ⟨xs, n, _, hx, hl, hlen, hf⟩ := DataW.trod_struct hs hf
  match xs, hlen with
  | [y0, y1, y2, y3, y4, y5], _ =>
    obtain ⟨o0, k0⟩ := hone_of hone 0 f0 rfl
    have h0 := hf 0 f0 rfl
    obtain ⟨o1, k1⟩ := hone_of hone 1 f1 rfl
    have h1 := hf 1 f1 rfl
    obtain ⟨o2, k2⟩ := hone_of hone 2 f2 rfl
    have h2 := hf 2 f2 rfl
    obtain ⟨o3, k3⟩ := hone_of hone 3 f3 rfl
    have h3 := hf 3 f3 rfl
    obtain ⟨o4, k4⟩ := hone_of hone 4 f4 rfl
    have h4 := hf 4 f4 rfl
    obtain ⟨o5, k5⟩ := hone_of hone 5 f5 rfl
    have h5 := hf 5 f5 rfl
    simp only [Prod.mk.injEq] at hx
    exact ⟨c0, c1, c2, c3, c4, c5, y0, y1, y2, y3, y4, y5, n, rfl, by simpa using hx.1, by simpa using hx.2, by simpa [Value.cells, o0, k0] using h0, by simpa [Value.cells, o1, k1] using h1, by simpa [Value.cells, o2, k2] using h2, by simpa [Value.cells, o3, k3] using h3, by simpa [Value.cells, o4, k4] using h4, by simpa [Value.cells, o5, k5] using h5⟩
theorem rel_agg6 {w : World} {ρ : Nat → Value} {rw N : Nat → Prop} {u0 u1 u2 u3 u4 u5 : Value} {s0 s1 s2 s3 s4 s5 : SV} (h0 : one u0) (h1 : one u1) (h2 : one u2) (h3 : one u3) (h4 : one u4) (h5 : one u5)
    (r0 : Rel w ρ rw N u0 s0) (r1 : Rel w ρ rw N u1 s1) (r2 : Rel w ρ rw N u2 s2) (r3 : Rel w ρ rw N u3 s3) (r4 : Rel w ρ rw N u4 s4) (r5 : Rel w ρ rw N u5 s5) : Rel w ρ rw N (.agg #[u0, u1, u2, u3, u4, u5]) (.agg [s0, s1, s2, s3, s4, s5]) := by
  refine .agg _ _ rfl ?_ ?_
  · intro v hv
    simp at hv
    rcases hv with rfl | rfl | rfl | rfl | rfl | rfl <;> assumption
  · intro i v s hv hs
    match i with
    | 0 => simp at hv hs; subst hv hs; exact r0
    | 1 => simp at hv hs; subst hv hs; exact r1
    | 2 => simp at hv hs; subst hv hs; exact r2
    | 3 => simp at hv hs; subst hv hs; exact r3
    | 4 => simp at hv hs; subst hv hs; exact r4
    | 5 => simp at hv hs; subst hv hs; exact r5
    | n + 6 => simp at hv
theorem u32_wf {z : Int} (h : (Lit.int .u32 z).wf = true) : 0 ≤ z ∧ z < 4294967296 := by
  simp [Lit.wf] at h
  have e1 : IntKind.u32.min = 0 := by decide
  have e2 : IntKind.u32.max = 4294967295 := by decide
  rw [e1, e2] at h
  exact ⟨h.1, by omega⟩
end
end Go.Vd

set_option linter.unusedVariables false
namespace Go.Vd
theorem u64_wf {z : Int} (h : (Lit.int .u64 z).wf = true) : 0 ≤ z ∧ z < 18446744073709551616 := by
  simp [Lit.wf] at h
  have e1 : IntKind.u64.min = 0 := by decide
  have e2 : IntKind.u64.max = 18446744073709551615 := by decide
  rw [e1, e2] at h
  omega
theorem i64_wf {z : Int} (h : (Lit.int .i64 z).wf = true) : -9223372036854775808 ≤ z ∧ z < 9223372036854775808 := by
  simp [Lit.wf] at h
  have e1 : IntKind.i64.min = -9223372036854775808 := by decide
  have e2 : IntKind.i64.max = 9223372036854775807 := by decide
  (try rw [e1] at h)
  (try rw [e2] at h)
  omega
theorem i16_wf {z : Int} (h : (Lit.int .i16 z).wf = true) : -32768 ≤ z ∧ z < 32768 := by
  simp [Lit.wf] at h
  have e1 : IntKind.i16.min = -32768 := by decide
  have e2 : IntKind.i16.max = 32767 := by decide
  (try rw [e1] at h)
  (try rw [e2] at h)
  omega
section
open Go.Proofs Go.ChangeShapes Go.WideShapes Go.ChangeAt Go.RowKit Go.Joins
variable {H : Type} {enc : TypeId × Value → H} {P : Program} {w : World} {base : Nat} {spare : Nat → Bool} {held : Bool}
theorem trodAll_five {t0 t1 t2 t3 t4 : TypeId} {args : Array Value} {ds : List (DataW H)} {ps : List MemPlace} (h : DataW.TrodAll enc P w base spare held [t0, t1, t2, t3, t4] args.toList ds ps) :
    ∃ v0 v1 v2 v3 v4 d0 d1 d2 d3 d4 p0 p1 p2 p3 p4, args = #[v0, v1, v2, v3, v4] ∧ ds = [d0, d1, d2, d3, d4] ∧ ps = p0 ++ p1 ++ p2 ++ p3 ++ p4 ∧ DataW.Trod enc P w base spare held t0 v0 d0 p0 ∧ DataW.Trod enc P w base spare held t1 v1 d1 p1 ∧ DataW.Trod enc P w base spare held t2 v2 d2 p2 ∧ DataW.Trod enc P w base spare held t3 v3 d3 p3 ∧ DataW.Trod enc P w base spare held t4 v4 d4 p4 := by
  obtain ⟨v0, vs0, d0, ds0, p0, q0, hargs, rfl, rfl, hd0, r0⟩ := trodAll_cons h
  obtain ⟨v1, vs1, d1, ds1, p1, q1, rfl, rfl, rfl, hd1, r1⟩ := trodAll_cons r0
  obtain ⟨v2, vs2, d2, ds2, p2, q2, rfl, rfl, rfl, hd2, r2⟩ := trodAll_cons r1
  obtain ⟨v3, vs3, d3, ds3, p3, q3, rfl, rfl, rfl, hd3, r3⟩ := trodAll_cons r2
  obtain ⟨v4, vs4, d4, ds4, p4, q4, rfl, rfl, rfl, hd4, r4⟩ := trodAll_cons r3
  obtain ⟨rfl, rfl, rfl⟩ := trodAll_nil r4
  exact ⟨v0, v1, v2, v3, v4, d0, d1, d2, d3, d4, p0, p1, p2, p3, p4, by cases args; simp_all, rfl, by simp, hd0, hd1, hd2, hd3, hd4⟩
end
end Go.Vd

set_option linter.unusedVariables false
set_option maxRecDepth 100000
namespace Go.Vd
open Go.Proofs Go.ChangeShapes Go.WideShapes Go.ChangeAt Go.RowKit Go.Joins Go.Deep Go.WideElems
section
variable {H : Type} {enc : TypeId × Value → H} {P : Program} {w : World} {base : Nat} {sp : Nat → Bool} {held : Bool}
/-- A struct of three numbers, as it is read. -/
theorem trod3 {fuel : Nat} {e : TypeId} {f0 f1 f2 : Field} {cs : List Value} {a b c : Int} {p : List MemPlace} (hs : P.underlying e = some (.struct #[f0, f1, f2])) (hone : oneCellFields P #[f0, f1, f2] = true)
    (h0 : P.underlying f0.type = some (.int .i64)) (h1 : P.underlying f1.type = some (.int .i64)) (h2 : P.underlying f2.type = some (.int .i64)) (hC : P.cellsOf e = 3)
    (h : DataW.trod enc P w base sp held fuel e cs = some (.agg [.lit (.int .i64 a), .lit (.int .i64 b), .lit (.int .i64 c)], p)) : cs = [.int .i64 a, .int .i64 b, .int .i64 c] := by
  obtain ⟨xs, n, _, hx, hl, hlen, hf⟩ := DataW.trod_struct hs h
  rw [hC] at hl
  match xs, hlen with
  | [y0, y1, y2], _ =>
    match cs, hl with
    | [c0, c1, c2], _ =>
      obtain ⟨o0, k0⟩ := hone_of hone 0 f0 rfl
      have g0 := hf 0 f0 rfl
      obtain ⟨o1, k1⟩ := hone_of hone 1 f1 rfl
      have g1 := hf 1 f1 rfl
      obtain ⟨o2, k2⟩ := hone_of hone 2 f2 rfl
      have g2 := hf 2 f2 rfl
      rw [o0, k0] at g0
      rw [o1, k1] at g1
      rw [o2, k2] at g2
      obtain ⟨z0, e0, i0, _⟩ := DataW.trod_int h0 g0
      obtain ⟨z1, e1, i1, _⟩ := DataW.trod_int h1 g1
      obtain ⟨z2, e2, i2, _⟩ := DataW.trod_int h2 g2
      simp only [Prod.mk.injEq] at hx
      have hx1 := hx.1
      simp at e0 e1 e2
      subst i0 i1 i2
      simp at hx1
      obtain ⟨r0, r1, r2⟩ := hx1
      subst r0 r1 r2 e0 e1 e2
      rfl
/-- A row of such. -/
theorem cells_of_known {fuel n : Nat} {t e : TypeId} {f0 f1 f2 : Field} {cs : List Value} {L : List (Int × Int × Int)} {p : List MemPlace} (ht : P.underlying t = some (.array n e)) (hs : P.underlying e = some (.struct #[f0, f1, f2])) (hone : oneCellFields P #[f0, f1, f2] = true)
    (h0 : P.underlying f0.type = some (.int .i64)) (h1 : P.underlying f1.type = some (.int .i64)) (h2 : P.underlying f2.type = some (.int .i64)) (hC : P.cellsOf e = 3)
    (h : DataW.trod enc P w base sp held fuel t cs = some (.agg (L.map fun x => .agg [.lit (.int .i64 x.1), .lit (.int .i64 x.2.1), .lit (.int .i64 x.2.2)]), p)) :
    cs.length = P.cellsOf t ∧ L.length = n ∧ ∀ i x, L[i]? = some x → (cs.drop (i * 3)).take 3 = [.int .i64 x.1, .int .i64 x.2.1, .int .i64 x.2.2] := by
  obtain ⟨xs, m, _, hx, hl, hlen, hf⟩ := DataW.trod_array ht h
  simp only [Prod.mk.injEq] at hx
  have hx1 : L.map (fun x => (DataW.agg [.lit (.int .i64 x.1), .lit (.int .i64 x.2.1), .lit (.int .i64 x.2.2)] : DataW H)) = xs.map (·.1) := by simpa using hx.1
  have hLl : L.length = n := by
    have := congrArg List.length hx1
    simp at this
    omega
  refine ⟨hl, hLl, fun i x hi => ?_⟩
  have hin : i < n := by
    rw [← hLl]
    exact (List.getElem?_eq_some_iff.1 hi).1
  have g := hf i hin
  rw [hC] at g
  have hxi : xs[i]? = some xs[i] := List.getElem?_eq_getElem (by omega)
  rw [hxi] at g
  have h3 : (DataW.agg [.lit (.int .i64 x.1), .lit (.int .i64 x.2.1), .lit (.int .i64 x.2.2)] : DataW H) = xs[i].1 := by
    have := congrArg (·[i]?) hx1
    simp [hi, hxi] at this
    exact this
  have g' : DataW.trod enc P w base sp held m e ((cs.drop (i * 3)).take 3) = some (.agg [.lit (.int .i64 x.1), .lit (.int .i64 x.2.1), .lit (.int .i64 x.2.2)], xs[i].2) := by
    rw [g, h3]
  exact trod3 hs hone h0 h1 h2 hC g'
end
def knownT : List (Int × Int × Int) := [(2, 3, 19), (3, 1, 6), (4, 1, 12), (7, 1, 10), (11, 1, 6), (12, 1, 6), (37, 2, 12), (38, 2, 6), (39, 2, 2), (41, 2, 8), (44, 4, 25), (48, 5, 999), (49, 1, 3), (90, 1, 42), (120, 5, 999)]
theorem gKnown : Tryd.prog.globalNamed "paydesk/field.known" = some 0 := by kernel_rfl
/-- What is known of the fields' own variable. -/
def KnownIs (w : World) : Prop := ∃ cs, w.var? Tryd.prog "paydesk/field.known" = some cs ∧ cs.size = 45 ∧ ∀ j, j < 45 → cs[j]? = some (.int .i64 (knownL.getD j 0))
theorem known_at : ∀ j, j < 45 → ∃ x, knownT[j / 3]? = some x ∧ ([x.1, x.2.1, x.2.2] : List Int)[j % 3]? = some (knownL.getD j 0) := by
  intro j hj
  have h : ∀ j : Fin 45, ∃ x : Fin 15, knownT[j.val / 3]? = knownT[x.val]? ∧ ((knownT[x.val]?).bind fun x => ([x.1, x.2.1, x.2.2] : List Int)[j.val % 3]?) = some (knownL.getD j.val 0) := by decide +kernel
  obtain ⟨x, h1, h2⟩ := h ⟨j, hj⟩
  simp only at h1 h2
  rw [← h1] at h2
  obtain ⟨y, h3, h4⟩ := Option.bind_eq_some_iff.1 h2
  exact ⟨y, h3, h4⟩
/-- What the tables give of the package's variables. -/
theorem gl0_kn {w : World} (hh : KnownIs w) : GlOk gl0 w fun _ => False := by
  obtain ⟨cs0, hv0, hz0, hc0⟩ := hh
  have hne : ∀ g, g ≠ 0 → gl0 g = .val (.pointer (some ⟨g, 0, none⟩)) := fun g hg => by
    unfold gl0
    split
    · exact absurd rfl hg
    · rfl
  refine ⟨fun g ρ N => ?_, fun g k f e => ?_⟩
  · by_cases hg0 : g = 0
    · subst hg0
      show Rel w ρ (fun _ => False) N _ (.rop 45 fun j => .int .i64 (knownL.getD j 0))
      refine .rop ⟨0, 0, none⟩ 45 _ (fun j => .int .i64 (knownL.getD j 0)) rfl (fun j hj => ⟨?_, rfl, fun e => e⟩) (fun j _ => .int _ _)
      rw [add_plain, Nat.zero_add, World.var?_cell gKnown hv0]
      exact hc0 j hj
    · rw [hne g hg0]; exact .val _
  · by_cases hg0 : g = 0
    · subst hg0
      have e2 : (SV.rop 45 fun j => .int .i64 (knownL.getD j 0)) = .rop k f := e
      cases e2
      refine ⟨?_, fun e => e⟩
      unfold World.var? at hv0
      rw [gKnown] at hv0
      simp only [Option.bind_some] at hv0
      split at hv0
      · rename_i cs t b hc
        injection hv0 with hv0
        exact ⟨cs, t, b, hc, by rw [hv0]; exact hz0⟩
      · cases hv0
    · rw [hne g hg0] at e; cases e
end Go.Vd
namespace Go.Proofs.YtjgfkbmplgiinaaDoor
open Go.ChangeShapes Go.WideShapes Go.ChangeAt Go.ChangeMaps Go.RowKit Go.Joins
def laidL : List (String × DataW Unit) := [("paydesk/field.known", Rows.laid_paydesk_field_known)]
theorem Tryd.own : ownKnob Tryd.prog.godebug = none := by kernel_rfl
theorem Tryd.laidOut : laidOutB Tryd.prog = true := by kernel_rfl
theorem tKn : (Tryd.prog.globals[0]?).map (·.type) = some 115 := by kernel_rfl
theorem cKn : Tryd.prog.cellsOf 115 = 45 := by kernel_rfl
theorem cKnE : Tryd.prog.cellsOf 102 = 3 := by kernel_rfl
theorem dKn : (Rows.laid_paydesk_field_known : DataW Unit) = .agg (Vd.knownT.map fun x => .agg [.lit (.int .i64 x.1), .lit (.int .i64 x.2.1), .lit (.int .i64 x.2.2)]) := by kernel_rfl
theorem door_met (os : Os) (args : Array Value) : laidMetH Tryd.prog laidL ((World.doorLaid Tryd.prog 2000 os).forCall (fun _ _ => 0) ⟨#[], args, []⟩).memory :=
  laidMetH_of_parts3 (fuel := 8) (laidMet_of_run' 8 (by kernel_rfl) (by kernel_rfl)) (by kernel_rfl) (by kernel_rfl)
theorem laid_known {W : World} (h : laidMetH Tryd.prog laidL W) : Vd.KnownIs W := by
  rw [MakeChecks.laidMetH_plain _ _ _ (by kernel_rfl)] at h
  obtain ⟨ps, ⟨g3, t3, cs3, f3, p3, q3, hg3, ht3, hv3, hd3, _, _⟩, _, _⟩ := h
  obtain rfl := Option.some.inj (Vd.gKnown.symm.trans hg3)
  obtain rfl := Option.some.inj (tKn.symm.trans ht3)
  rw [dKn] at hd3
  obtain ⟨hl, hn, hx⟩ := Vd.cells_of_known Tryd.underlying115 Tryd.underlying102 (by kernel_rfl) Tryd.underlying3 Tryd.underlying3 Tryd.underlying3 cKnE hd3
  rw [cKn] at hl
  refine ⟨cs3, hv3, by simpa using hl, fun j hj => ?_⟩
  obtain ⟨x, h1, h2⟩ := Vd.known_at j hj
  have h3 := hx _ x h1
  have h4 := congrArg (·[j % 3]?) h3
  rw [List.getElem?_take_of_lt (by omega), List.getElem?_drop, show j / 3 * 3 + j % 3 = j by omega] at h4
  rw [← Array.getElem?_toList, h4]
  have h5 := congrArg (Option.map (Value.int .i64)) h2
  rw [← List.getElem?_map] at h5
  exact h5
end Go.Proofs.YtjgfkbmplgiinaaDoor

set_option linter.unusedVariables false
namespace Go.Vd
open Go.Proofs Go.ChangeShapes Go.WideShapes Go.ChangeAt Go.RowKit Go.Joins Go.Deep Go.WideElems
section
variable {H : Type} {enc : TypeId × Value → H} {P : Program}
theorem array7 {α : Type} {cs : Array α} (h : cs.size = 7) : ∃ c0 c1 c2 c3 c4 c5 c6, cs = #[c0, c1, c2, c3, c4, c5, c6] := by
  obtain ⟨l⟩ := cs
  match l, h with
  | [c0, c1, c2, c3, c4, c5, c6], _ => exact ⟨c0, c1, c2, c3, c4, c5, c6, rfl⟩
theorem array8 {α : Type} {cs : Array α} (h : cs.size = 8) : ∃ c0 c1 c2 c3 c4 c5 c6 c7, cs = #[c0, c1, c2, c3, c4, c5, c6, c7] := by
  obtain ⟨l⟩ := cs
  match l, h with
  | [c0, c1, c2, c3, c4, c5, c6, c7], _ => exact ⟨c0, c1, c2, c3, c4, c5, c6, c7, rfl⟩
theorem rel_agg7 {w : World} {ρ : Nat → Value} {rw N : Nat → Prop} {u0 u1 u2 u3 u4 u5 u6 : Value} {s0 s1 s2 s3 s4 s5 s6 : SV} (h0 : one u0) (h1 : one u1) (h2 : one u2) (h3 : one u3) (h4 : one u4) (h5 : one u5) (h6 : one u6) (r0 : Rel w ρ rw N u0 s0) (r1 : Rel w ρ rw N u1 s1) (r2 : Rel w ρ rw N u2 s2) (r3 : Rel w ρ rw N u3 s3) (r4 : Rel w ρ rw N u4 s4) (r5 : Rel w ρ rw N u5 s5) (r6 : Rel w ρ rw N u6 s6) : Rel w ρ rw N (.agg #[u0, u1, u2, u3, u4, u5, u6]) (.agg [s0, s1, s2, s3, s4, s5, s6]) := by
  refine .agg _ _ rfl ?_ ?_
  · intro v hv
    simp at hv
    rcases hv with rfl | rfl | rfl | rfl | rfl | rfl | rfl <;> assumption
  · intro i v s hv hs
    match i with
    | 0 => simp at hv hs; subst hv hs; exact r0
    | 1 => simp at hv hs; subst hv hs; exact r1
    | 2 => simp at hv hs; subst hv hs; exact r2
    | 3 => simp at hv hs; subst hv hs; exact r3
    | 4 => simp at hv hs; subst hv hs; exact r4
    | 5 => simp at hv hs; subst hv hs; exact r5
    | 6 => simp at hv hs; subst hv hs; exact r6
    | n + 7 => simp at hv
theorem rel_agg8 {w : World} {ρ : Nat → Value} {rw N : Nat → Prop} {u0 u1 u2 u3 u4 u5 u6 u7 : Value} {s0 s1 s2 s3 s4 s5 s6 s7 : SV} (h0 : one u0) (h1 : one u1) (h2 : one u2) (h3 : one u3) (h4 : one u4) (h5 : one u5) (h6 : one u6) (h7 : one u7) (r0 : Rel w ρ rw N u0 s0) (r1 : Rel w ρ rw N u1 s1) (r2 : Rel w ρ rw N u2 s2) (r3 : Rel w ρ rw N u3 s3) (r4 : Rel w ρ rw N u4 s4) (r5 : Rel w ρ rw N u5 s5) (r6 : Rel w ρ rw N u6 s6) (r7 : Rel w ρ rw N u7 s7) : Rel w ρ rw N (.agg #[u0, u1, u2, u3, u4, u5, u6, u7]) (.agg [s0, s1, s2, s3, s4, s5, s6, s7]) := by
  refine .agg _ _ rfl ?_ ?_
  · intro v hv
    simp at hv
    rcases hv with rfl | rfl | rfl | rfl | rfl | rfl | rfl | rfl <;> assumption
  · intro i v s hv hs
    match i with
    | 0 => simp at hv hs; subst hv hs; exact r0
    | 1 => simp at hv hs; subst hv hs; exact r1
    | 2 => simp at hv hs; subst hv hs; exact r2
    | 3 => simp at hv hs; subst hv hs; exact r3
    | 4 => simp at hv hs; subst hv hs; exact r4
    | 5 => simp at hv hs; subst hv hs; exact r5
    | 6 => simp at hv hs; subst hv hs; exact r6
    | 7 => simp at hv hs; subst hv hs; exact r7
    | n + 8 => simp at hv
theorem open_entry {W : World} {b0 base : Nat} {spare : Nat → Bool} {held : Bool} {r : Reach} {t : TypeId} {f0 f1 f2 f3 f4 f5 f6 : Field} {g00 g01 : Field} {v : Value} {d : DataW H} {p : List MemPlace} (hs : P.underlying t = some (.struct #[f0, f1, f2, f3, f4, f5, f6])) (hC : P.cellsOf t = 8)
    (o0 : f0.offset = 0) (k0 : P.cellsOf f0.type = 2) (o1 : f1.offset = 2) (k1 : P.cellsOf f1.type = 1) (o2 : f2.offset = 3) (k2 : P.cellsOf f2.type = 1) (o3 : f3.offset = 4) (k3 : P.cellsOf f3.type = 1) (o4 : f4.offset = 5) (k4 : P.cellsOf f4.type = 1) (o5 : f5.offset = 6) (k5 : P.cellsOf f5.type = 1) (o6 : f6.offset = 7) (k6 : P.cellsOf f6.type = 1) (hs0 : P.underlying f0.type = some (.struct #[g00, g01])) (hone0 : oneCellFields P #[g00, g01] = true) 
    (hv : Value.okWide P W r b0 t v) (h : DataW.Trod enc P W base spare held t v d p) :
    ∃ (c0 c1 c2 c3 c4 c5 c6 c7 : Value) (y00 y01 y1 y2 y3 y4 y5 y6 : DataW H × List MemPlace) (n m0 : Nat), v = .agg #[c0, c1, c2, c3, c4, c5, c6, c7] ∧ d = .agg [.agg [y00.1, y01.1], y1.1, y2.1, y3.1, y4.1, y5.1, y6.1] ∧ p = (y00.2 ++ (y01.2)) ++ (y1.2 ++ (y2.2 ++ (y3.2 ++ (y4.2 ++ (y5.2 ++ (y6.2)))))) ∧
      DataW.trod enc P W base spare held m0 g00.type [c0] = some y00 ∧ DataW.trod enc P W base spare held m0 g01.type [c1] = some y01 ∧ DataW.trod enc P W base spare held n f1.type [c2] = some y1 ∧ DataW.trod enc P W base spare held n f2.type [c3] = some y2 ∧ DataW.trod enc P W base spare held n f3.type [c4] = some y3 ∧ DataW.trod enc P W base spare held n f4.type [c5] = some y4 ∧ DataW.trod enc P W base spare held n f5.type [c6] = some y5 ∧ DataW.trod enc P W base spare held n f6.type [c7] = some y6 := by
  obtain ⟨cs, rfl, hsz⟩ := okWide_struct hs hv
  obtain ⟨c0, c1, c2, c3, c4, c5, c6, c7, rfl⟩ := array8 (hsz.trans hC)
  obtain ⟨fuel, hf⟩ := h
  obtain ⟨xs, n, _, hx, hl, hlen, hf⟩ := DataW.trod_struct hs hf
  match xs, hlen with
  | [w0, w1, w2, w3, w4, w5, w6], _ =>
    simp only [Prod.mk.injEq] at hx
    have q0 := hf 0 f0 rfl
    rw [o0, k0] at q0
    have q1 := hf 1 f1 rfl
    rw [o1, k1] at q1
    have q2 := hf 2 f2 rfl
    rw [o2, k2] at q2
    have q3 := hf 3 f3 rfl
    rw [o3, k3] at q3
    have q4 := hf 4 f4 rfl
    rw [o4, k4] at q4
    have q5 := hf 5 f5 rfl
    rw [o5, k5] at q5
    have q6 := hf 6 f6 rfl
    rw [o6, k6] at q6
    have q0 : DataW.trod enc P W base spare held n f0.type [c0, c1] = some w0 := by simpa [Value.cells] using q0
    obtain ⟨xs0, m0, _, hx0, _, hlen0, hf0⟩ := DataW.trod_struct hs0 q0
    match xs0, hlen0 with
    | [y00, y01], _ =>
    obtain ⟨oo00, kk00⟩ := hone_of hone0 0 g00 rfl
    have qq00 := hf0 0 g00 rfl
    rw [oo00, kk00] at qq00
    obtain ⟨oo01, kk01⟩ := hone_of hone0 1 g01 rfl
    have qq01 := hf0 1 g01 rfl
    rw [oo01, kk01] at qq01
    subst hx0
    refine ⟨c0, c1, c2, c3, c4, c5, c6, c7, y00, y01, w1, w2, w3, w4, w5, w6, n, m0, rfl, by simpa using hx.1, by simpa using hx.2, by simpa [Value.cells] using qq00, by simpa [Value.cells] using qq01, by simpa [Value.cells] using q1, by simpa [Value.cells] using q2, by simpa [Value.cells] using q3, by simpa [Value.cells] using q4, by simpa [Value.cells] using q5, by simpa [Value.cells] using q6⟩
theorem open_event {W : World} {b0 base : Nat} {spare : Nat → Bool} {held : Bool} {r : Reach} {t : TypeId} {f0 f1 : Field} {g10 g11 g12 g13 g14 g15 : Field} {v : Value} {d : DataW H} {p : List MemPlace} (hs : P.underlying t = some (.struct #[f0, f1])) (hC : P.cellsOf t = 7)
    (o0 : f0.offset = 0) (k0 : P.cellsOf f0.type = 1) (o1 : f1.offset = 1) (k1 : P.cellsOf f1.type = 6) (hs1 : P.underlying f1.type = some (.struct #[g10, g11, g12, g13, g14, g15])) (hone1 : oneCellFields P #[g10, g11, g12, g13, g14, g15] = true) 
    (hv : Value.okWide P W r b0 t v) (h : DataW.Trod enc P W base spare held t v d p) :
    ∃ (c0 c1 c2 c3 c4 c5 c6 : Value) (y0 y10 y11 y12 y13 y14 y15 : DataW H × List MemPlace) (n m1 : Nat), v = .agg #[c0, c1, c2, c3, c4, c5, c6] ∧ d = .agg [y0.1, .agg [y10.1, y11.1, y12.1, y13.1, y14.1, y15.1]] ∧ p = y0.2 ++ ((y10.2 ++ (y11.2 ++ (y12.2 ++ (y13.2 ++ (y14.2 ++ (y15.2))))))) ∧
      DataW.trod enc P W base spare held n f0.type [c0] = some y0 ∧ DataW.trod enc P W base spare held m1 g10.type [c1] = some y10 ∧ DataW.trod enc P W base spare held m1 g11.type [c2] = some y11 ∧ DataW.trod enc P W base spare held m1 g12.type [c3] = some y12 ∧ DataW.trod enc P W base spare held m1 g13.type [c4] = some y13 ∧ DataW.trod enc P W base spare held m1 g14.type [c5] = some y14 ∧ DataW.trod enc P W base spare held m1 g15.type [c6] = some y15 := by
  obtain ⟨cs, rfl, hsz⟩ := okWide_struct hs hv
  obtain ⟨c0, c1, c2, c3, c4, c5, c6, rfl⟩ := array7 (hsz.trans hC)
  obtain ⟨fuel, hf⟩ := h
  obtain ⟨xs, n, _, hx, hl, hlen, hf⟩ := DataW.trod_struct hs hf
  match xs, hlen with
  | [w0, w1], _ =>
    simp only [Prod.mk.injEq] at hx
    have q0 := hf 0 f0 rfl
    rw [o0, k0] at q0
    have q1 := hf 1 f1 rfl
    rw [o1, k1] at q1
    have q1 : DataW.trod enc P W base spare held n f1.type [c1, c2, c3, c4, c5, c6] = some w1 := by simpa [Value.cells] using q1
    obtain ⟨xs1, m1, _, hx1, _, hlen1, hf1⟩ := DataW.trod_struct hs1 q1
    match xs1, hlen1 with
    | [y10, y11, y12, y13, y14, y15], _ =>
    obtain ⟨oo10, kk10⟩ := hone_of hone1 0 g10 rfl
    have qq10 := hf1 0 g10 rfl
    rw [oo10, kk10] at qq10
    obtain ⟨oo11, kk11⟩ := hone_of hone1 1 g11 rfl
    have qq11 := hf1 1 g11 rfl
    rw [oo11, kk11] at qq11
    obtain ⟨oo12, kk12⟩ := hone_of hone1 2 g12 rfl
    have qq12 := hf1 2 g12 rfl
    rw [oo12, kk12] at qq12
    obtain ⟨oo13, kk13⟩ := hone_of hone1 3 g13 rfl
    have qq13 := hf1 3 g13 rfl
    rw [oo13, kk13] at qq13
    obtain ⟨oo14, kk14⟩ := hone_of hone1 4 g14 rfl
    have qq14 := hf1 4 g14 rfl
    rw [oo14, kk14] at qq14
    obtain ⟨oo15, kk15⟩ := hone_of hone1 5 g15 rfl
    have qq15 := hf1 5 g15 rfl
    rw [oo15, kk15] at qq15
    subst hx1
    refine ⟨c0, c1, c2, c3, c4, c5, c6, w0, y10, y11, y12, y13, y14, y15, n, m1, rfl, by simpa using hx.1, by simpa using hx.2, by simpa [Value.cells] using q0, by simpa [Value.cells] using qq10, by simpa [Value.cells] using qq11, by simpa [Value.cells] using qq12, by simpa [Value.cells] using qq13, by simpa [Value.cells] using qq14, by simpa [Value.cells] using qq15⟩
end
end Go.Vd

set_option linter.unusedVariables false
namespace Go.Vd
open Go.Proofs Go.ChangeShapes Go.WideShapes Go.ChangeAt Go.RowKit Go.Joins Go.Deep Go.WideElems
def tbB (L : List Ent) : Prop := L.length ≤ maxLen ∧ ∀ i, enB (L.getD i E0)
theorem tbB_0 : tbB [] := ⟨Nat.zero_le _, fun i => by rw [List.getD_nil]; exact enB_0⟩
section
variable {H : Type} {enc : TypeId × Value → H} {P : Program}
theorem enb_list {α : Type} {cs : List α} (h : cs.length = 8) : ∃ c0 c1 c2 c3 c4 c5 c6 c7, cs = [c0, c1, c2, c3, c4, c5, c6, c7] := by
  match cs, h with
  | [c0, c1, c2, c3, c4, c5, c6, c7], _ => exact ⟨c0, c1, c2, c3, c4, c5, c6, c7, rfl⟩
theorem enb_one {W : World} {ad : Addr} {n : Nat} {el : DataW H × List MemPlace} {e : TypeId} {f0 f1 f2 f3 f4 f5 f6 g00 g01 : Field} (hs : P.underlying e = some (.struct #[f0, f1, f2, f3, f4, f5, f6])) (hC : P.cellsOf e = 8)
    (o0 : f0.offset = 0) (k0 : P.cellsOf f0.type = 2) (hs0 : P.underlying f0.type = some (.struct #[g00, g01])) (hone0 : oneCellFields P #[g00, g01] = true) (o1 : f1.offset = 2) (k1 : P.cellsOf f1.type = 1) (o2 : f2.offset = 3) (k2 : P.cellsOf f2.type = 1) (o3 : f3.offset = 4) (k3 : P.cellsOf f3.type = 1) (o4 : f4.offset = 5) (k4 : P.cellsOf f4.type = 1) (o5 : f5.offset = 6) (k5 : P.cellsOf f5.type = 1) (o6 : f6.offset = 7) (k6 : P.cellsOf f6.type = 1) 
    (u0 : P.underlying g00.type = some (.int .u32)) (u1 : P.underlying g01.type = some (.string)) (u2 : P.underlying f1.type = some (.int .i64)) (u3 : P.underlying f2.type = some (.string)) (u4 : P.underlying f3.type = some (.int .u64)) (u5 : P.underlying f4.type = some (.string)) (u6 : P.underlying f5.type = some (.int .i64)) (u7 : P.underlying f6.type = some (.int .i64)) 
    (h : (W.cells? 0 ad 8).bind (DataW.trod enc P W 0 (fun _ => true) true n e) = some el) :
    ∃ x : Ent, enB x ∧ ∀ j, j < 8 → ∃ v, W.cell? (ad.add j) = some v ∧ Vd.one v ∧ RelC W (fun _ => False) v (getAt (eE std fun _ => x) j) := by
  obtain ⟨cs, hcs, hf⟩ := Option.bind_eq_some_iff.1 h
  obtain ⟨_, hlen, hcell⟩ := World.cells?_some hcs
  obtain ⟨c0, c1, c2, c3, c4, c5, c6, c7, rfl⟩ := enb_list hlen
  obtain ⟨xs, n', _, hx, hl, hlen2, hf⟩ := DataW.trod_struct hs hf
  match xs, hlen2 with
  | [w0, w1, w2, w3, w4, w5, w6], _ =>
    have q0 := hf 0 f0 rfl
    rw [o0, k0] at q0
    have q0 : DataW.trod enc P W 0 (fun _ => true) true n' f0.type [c0, c1] = some w0 := by simpa using q0
    obtain ⟨xs0, m0, _, hx0, _, hlen0, hf0⟩ := DataW.trod_struct hs0 q0
    match xs0, hlen0 with
    | [y00, y01], _ =>
    obtain ⟨oo00, kk00⟩ := hone_of hone0 0 g00 rfl
    have qq00 := hf0 0 g00 rfl
    rw [oo00, kk00] at qq00
    obtain ⟨oo01, kk01⟩ := hone_of hone0 1 g01 rfl
    have qq01 := hf0 1 g01 rfl
    rw [oo01, kk01] at qq01
    have q1 := hf 1 f1 rfl
    rw [o1, k1] at q1
    have q1 : DataW.trod enc P W 0 (fun _ => true) true n' f1.type [c2] = some w1 := by simpa using q1
    have q2 := hf 2 f2 rfl
    rw [o2, k2] at q2
    have q2 : DataW.trod enc P W 0 (fun _ => true) true n' f2.type [c3] = some w2 := by simpa using q2
    have q3 := hf 3 f3 rfl
    rw [o3, k3] at q3
    have q3 : DataW.trod enc P W 0 (fun _ => true) true n' f3.type [c4] = some w3 := by simpa using q3
    have q4 := hf 4 f4 rfl
    rw [o4, k4] at q4
    have q4 : DataW.trod enc P W 0 (fun _ => true) true n' f4.type [c5] = some w4 := by simpa using q4
    have q5 := hf 5 f5 rfl
    rw [o5, k5] at q5
    have q5 : DataW.trod enc P W 0 (fun _ => true) true n' f5.type [c6] = some w5 := by simpa using q5
    have q6 := hf 6 f6 rfl
    rw [o6, k6] at q6
    have q6 : DataW.trod enc P W 0 (fun _ => true) true n' f6.type [c7] = some w6 := by simpa using q6
    obtain ⟨z0, e0, _, wf0⟩ := DataW.trod_int (cs := [c0]) u0 (by simpa using qq00)
    obtain ⟨s1, e1, _, _⟩ := DataW.trod_string (cs := [c1]) u1 (by simpa using qq01)
    obtain ⟨z2, e2, _, wf2⟩ := DataW.trod_int (cs := [c2]) u2 q1
    obtain ⟨s3, e3, _, _⟩ := DataW.trod_string (cs := [c3]) u3 q2
    obtain ⟨z4, e4, _, wf4⟩ := DataW.trod_int (cs := [c4]) u4 q3
    obtain ⟨s5, e5, _, _⟩ := DataW.trod_string (cs := [c5]) u5 q4
    obtain ⟨z6, e6, _, wf6⟩ := DataW.trod_int (cs := [c6]) u6 q5
    obtain ⟨z7, e7, _, wf7⟩ := DataW.trod_int (cs := [c7]) u7 q6
    simp only [List.cons.injEq, and_true] at e0 e1 e2 e3 e4 e5 e6 e7
    subst e0 e1 e2 e3 e4 e5 e6 e7
    refine ⟨⟨z0, s1.data.toList, z2, s3.data.toList, z4, s5.data.toList, z6, z7⟩, (u32_wf wf0), fun j hj => ?_⟩
    have hcj := hcell j (by omega)
    match j, hj with
    | 0, _ => exact ⟨.int .u32 z0, by simpa using hcj, rfl, .int _ _⟩
    | 1, _ => exact ⟨.string s1, by simpa using hcj, rfl, .str _⟩
    | 2, _ => exact ⟨.int .i64 z2, by simpa using hcj, rfl, .int _ _⟩
    | 3, _ => exact ⟨.string s3, by simpa using hcj, rfl, .str _⟩
    | 4, _ => exact ⟨.int .u64 z4, by simpa using hcj, rfl, .int _ _⟩
    | 5, _ => exact ⟨.string s5, by simpa using hcj, rfl, .str _⟩
    | 6, _ => exact ⟨.int .i64 z6, by simpa using hcj, rfl, .int _ _⟩
    | 7, _ => exact ⟨.int .i64 z7, by simpa using hcj, rfl, .int _ _⟩
theorem open_enb_trod {W : World} {t e : TypeId} {v : Value} {fuel : Nat} {x : DataW H × List MemPlace} (ht : P.underlying t = some (.slice e)) {f0 f1 f2 f3 f4 f5 f6 g00 g01 : Field} (hs : P.underlying e = some (.struct #[f0, f1, f2, f3, f4, f5, f6])) (hC : P.cellsOf e = 8)
    (o0 : f0.offset = 0) (k0 : P.cellsOf f0.type = 2) (hs0 : P.underlying f0.type = some (.struct #[g00, g01])) (hone0 : oneCellFields P #[g00, g01] = true) (o1 : f1.offset = 2) (k1 : P.cellsOf f1.type = 1) (o2 : f2.offset = 3) (k2 : P.cellsOf f2.type = 1) (o3 : f3.offset = 4) (k3 : P.cellsOf f3.type = 1) (o4 : f4.offset = 5) (k4 : P.cellsOf f4.type = 1) (o5 : f5.offset = 6) (k5 : P.cellsOf f5.type = 1) (o6 : f6.offset = 7) (k6 : P.cellsOf f6.type = 1) 
    (u0 : P.underlying g00.type = some (.int .u32)) (u1 : P.underlying g01.type = some (.string)) (u2 : P.underlying f1.type = some (.int .i64)) (u3 : P.underlying f2.type = some (.string)) (u4 : P.underlying f3.type = some (.int .u64)) (u5 : P.underlying f4.type = some (.string)) (u6 : P.underlying f5.type = some (.int .i64)) (u7 : P.underlying f6.type = some (.int .i64)) 
    (h : DataW.trod enc P W 0 (fun _ => true) true fuel t [v] = some x) :
    ∃ L : List (Ent), L.length ≤ maxLen ∧ (∀ i, enB (L.getD i E0)) ∧ Vd.one v ∧ RelC W (fun _ => False) v (rowS eE E0 8 std fun _ => L) := by
  rcases DataW.trod_slice ht h with ⟨hcs, _⟩ | ⟨a, len, cap, elems, rest, n, _, hcs, _, _, hl, hm, hel, hx, _, _⟩
  · simp only [List.cons.injEq, and_true] at hcs
    subst hcs
    exact ⟨[], Nat.zero_le _, fun i => enB_0, rfl, .slc none 0 0 8 _ (fun _ _ => undef) (Nat.le_refl _) (fun i j hi => absurd hi (by omega)) (fun h => absurd h (by omega)) (fun i j hi => absurd hi (by omega))⟩
  · simp only [List.cons.injEq, and_true] at hcs
    subst hcs
    rw [hC] at hx
    have each : ∀ i, i < len → ∃ x : Ent, enB x ∧ ∀ j, j < 8 → ∃ v, W.cell? ((a.add (i * 8)).add j) = some v ∧ Vd.one v ∧ RelC W (fun _ => False) v (getAt (eE std fun _ => x) j) := by
      intro i hi
      have h1 := hx i hi
      rw [List.getElem?_eq_getElem (by omega)] at h1
      exact enb_one hs hC o0 k0 hs0 hone0 o1 k1 o2 k2 o3 k3 o4 k4 o5 k5 o6 k6 u0 u1 u2 u3 u4 u5 u6 u7 h1
    obtain ⟨F, hF⟩ : ∃ F : Nat → Ent, ∀ i, i < len → enB (F i) ∧ ∀ j, j < 8 → ∃ v, W.cell? ((a.add (i * 8)).add j) = some v ∧ Vd.one v ∧ RelC W (fun _ => False) v (getAt (eE std fun _ => F i) j) :=
      ⟨fun i => if h : i < len then Classical.choose (each i h) else E0, fun i h => by simp only [dif_pos h]; exact Classical.choose_spec (each i h)⟩
    have hadd : ∀ i j, a.add (i * 8 + j) = (a.add (i * 8)).add j := fun i j => by
      unfold Addr.add
      by_cases h1 : i = 0
      · subst h1
        simp
      · by_cases h2 : j = 0
        · subst h2
          simp
        · rw [if_neg (by omega), if_neg h2, if_neg (show ¬ i * 8 = 0 by omega)]
          simp [Nat.add_assoc]
    let L : List (Ent) := (List.range len).map F
    have hlen : L.length = len := by simp [L]
    refine ⟨L, by rw [hlen]; omega, fun i => ?_, rfl, ?_⟩
    · by_cases hi : i < len
      · have e : L.getD i E0 = F i := by simp [L, List.getD_eq_getElem?_getD, hi]
        rw [e]; exact (hF i hi).1
      · have e : L.getD i E0 = E0 := by rw [List.getD_eq_getElem?_getD, List.getElem?_eq_none (by rw [hlen]; omega)]; rfl
        rw [e]; exact enB_0
    show RelC W (fun _ => False) _ (.slc L.length 8 (rowF eE E0 std fun _ => L))
    rw [hlen]
    have hget : ∀ i, i < len → L.getD i E0 = F i := fun i hi => by simp [L, List.getD_eq_getElem?_getD, hi]
    refine .slc (some a) len cap 8 _ (fun i j => (W.cell? (a.add (i * 8 + j))).getD undef) hl (fun i j hi hj => ?_) (fun h0 => ⟨a, rfl, ?_⟩) (fun i j hi hj => ?_)
    · obtain ⟨v, h1, h2, _⟩ := (hF i hi).2 j hj
      rw [hadd, h1]
      exact ⟨a, rfl, (hadd i j).symm ▸ h1, h2, fun h => h⟩
    · obtain ⟨v, h1, _⟩ := (hF 0 h0).2 0 (by omega)
      simpa [Addr.add] using World.cell?_spot h1
    · obtain ⟨v, h1, _, h3⟩ := (hF i hi).2 j hj
      simp only [hadd, h1, Option.getD_some]
      show RelC W _ v (getAt (eE std fun _ => L.getD i E0) j)
      rw [hget i hi]
      exact h3
theorem open_enb_rel {W : World} {base : Nat} {t e : TypeId} {v : Value} {d : DataW H} {p : List MemPlace} {ρ : Nat → Value} {N : Nat → Prop} (ht : P.underlying t = some (.slice e)) {f0 f1 f2 f3 f4 f5 f6 g00 g01 : Field} (hs : P.underlying e = some (.struct #[f0, f1, f2, f3, f4, f5, f6])) (hC : P.cellsOf e = 8)
    (o0 : f0.offset = 0) (k0 : P.cellsOf f0.type = 2) (hs0 : P.underlying f0.type = some (.struct #[g00, g01])) (hone0 : oneCellFields P #[g00, g01] = true) (o1 : f1.offset = 2) (k1 : P.cellsOf f1.type = 1) (o2 : f2.offset = 3) (k2 : P.cellsOf f2.type = 1) (o3 : f3.offset = 4) (k3 : P.cellsOf f3.type = 1) (o4 : f4.offset = 5) (k4 : P.cellsOf f4.type = 1) (o5 : f5.offset = 6) (k5 : P.cellsOf f5.type = 1) (o6 : f6.offset = 7) (k6 : P.cellsOf f6.type = 1) 
    (u0 : P.underlying g00.type = some (.int .u32)) (u1 : P.underlying g01.type = some (.string)) (u2 : P.underlying f1.type = some (.int .i64)) (u3 : P.underlying f2.type = some (.string)) (u4 : P.underlying f3.type = some (.int .u64)) (u5 : P.underlying f4.type = some (.string)) (u6 : P.underlying f5.type = some (.int .i64)) (u7 : P.underlying f6.type = some (.int .i64)) 
    (hval : Value.okWide P W .any base t v) (h : DataW.Trod enc P W 0 (fun _ => true) true t v d p) :
    ∃ L : List (Ent), L.length ≤ maxLen ∧ (∀ i, enB (L.getD i E0)) ∧ Rel W ρ (fun _ => False) N v (rowS eE E0 8 std fun _ => L) := by
  obtain ⟨a1, len, cap, rfl⟩ := okWide_slice ht hval
  obtain ⟨fuel, hf⟩ := h
  simp only [Value.cells] at hf
  obtain ⟨L, hL, hB, _, hr⟩ := open_enb_trod ht hs hC o0 k0 hs0 hone0 o1 k1 o2 k2 o3 k3 o4 k4 o5 k5 o6 k6 u0 u1 u2 u3 u4 u5 u6 u7 (by simpa using hf)
  exact ⟨L, hL, hB, hr.rel⟩
theorem tbs_list {α : Type} {cs : List α} (h : cs.length = 1) : ∃ c0, cs = [c0] := by
  match cs, h with
  | [c0], _ => exact ⟨c0, rfl⟩
theorem tbs_one {W : World} {ad : Addr} {n : Nat} {el : DataW H × List MemPlace} {e : TypeId} {q : TypeId} (hE : P.underlying e = some (.slice q)) (hC : P.cellsOf e = 1) {f0 f1 f2 f3 f4 f5 f6 g00 g01 : Field} (hs : P.underlying q = some (.struct #[f0, f1, f2, f3, f4, f5, f6])) (hC2 : P.cellsOf q = 8)
    (o0 : f0.offset = 0) (k0 : P.cellsOf f0.type = 2) (hs0 : P.underlying f0.type = some (.struct #[g00, g01])) (hone0 : oneCellFields P #[g00, g01] = true) (o1 : f1.offset = 2) (k1 : P.cellsOf f1.type = 1) (o2 : f2.offset = 3) (k2 : P.cellsOf f2.type = 1) (o3 : f3.offset = 4) (k3 : P.cellsOf f3.type = 1) (o4 : f4.offset = 5) (k4 : P.cellsOf f4.type = 1) (o5 : f5.offset = 6) (k5 : P.cellsOf f5.type = 1) (o6 : f6.offset = 7) (k6 : P.cellsOf f6.type = 1) (u0 : P.underlying g00.type = some (.int .u32)) (u1 : P.underlying g01.type = some (.string)) (u2 : P.underlying f1.type = some (.int .i64)) (u3 : P.underlying f2.type = some (.string)) (u4 : P.underlying f3.type = some (.int .u64)) (u5 : P.underlying f4.type = some (.string)) (u6 : P.underlying f5.type = some (.int .i64)) (u7 : P.underlying f6.type = some (.int .i64)) 
    (h : (W.cells? 0 ad 1).bind (DataW.trod enc P W 0 (fun _ => true) true n e) = some el) :
    ∃ x : List Ent, tbB x ∧ ∀ j, j < 1 → ∃ v, W.cell? (ad.add j) = some v ∧ Vd.one v ∧ RelC W (fun _ => False) v (getAt (eEs std fun _ => x) j) := by
  obtain ⟨cs, hcs, hf⟩ := Option.bind_eq_some_iff.1 h
  obtain ⟨_, hlen, hcell⟩ := World.cells?_some hcs
  obtain ⟨c0, rfl⟩ := tbs_list hlen
  obtain ⟨L, hL, hB, h1, hr⟩ := open_enb_trod hE hs hC2 o0 k0 hs0 hone0 o1 k1 o2 k2 o3 k3 o4 k4 o5 k5 o6 k6 u0 u1 u2 u3 u4 u5 u6 u7 hf
  refine ⟨L, ⟨hL, hB⟩, fun j hj => ?_⟩
  obtain rfl : j = 0 := by omega
  exact ⟨c0, by simpa using hcell 0 (by omega), h1, hr⟩
theorem open_tbs_trod {W : World} {t e : TypeId} {v : Value} {fuel : Nat} {x : DataW H × List MemPlace} (ht : P.underlying t = some (.slice e)) {q : TypeId} (hE : P.underlying e = some (.slice q)) (hC : P.cellsOf e = 1) {f0 f1 f2 f3 f4 f5 f6 g00 g01 : Field} (hs : P.underlying q = some (.struct #[f0, f1, f2, f3, f4, f5, f6])) (hC2 : P.cellsOf q = 8)
    (o0 : f0.offset = 0) (k0 : P.cellsOf f0.type = 2) (hs0 : P.underlying f0.type = some (.struct #[g00, g01])) (hone0 : oneCellFields P #[g00, g01] = true) (o1 : f1.offset = 2) (k1 : P.cellsOf f1.type = 1) (o2 : f2.offset = 3) (k2 : P.cellsOf f2.type = 1) (o3 : f3.offset = 4) (k3 : P.cellsOf f3.type = 1) (o4 : f4.offset = 5) (k4 : P.cellsOf f4.type = 1) (o5 : f5.offset = 6) (k5 : P.cellsOf f5.type = 1) (o6 : f6.offset = 7) (k6 : P.cellsOf f6.type = 1) (u0 : P.underlying g00.type = some (.int .u32)) (u1 : P.underlying g01.type = some (.string)) (u2 : P.underlying f1.type = some (.int .i64)) (u3 : P.underlying f2.type = some (.string)) (u4 : P.underlying f3.type = some (.int .u64)) (u5 : P.underlying f4.type = some (.string)) (u6 : P.underlying f5.type = some (.int .i64)) (u7 : P.underlying f6.type = some (.int .i64)) 
    (h : DataW.trod enc P W 0 (fun _ => true) true fuel t [v] = some x) :
    ∃ L : List (List Ent), L.length ≤ maxLen ∧ (∀ i, tbB (L.getD i [])) ∧ Vd.one v ∧ RelC W (fun _ => False) v (rowS eEs [] 1 std fun _ => L) := by
  rcases DataW.trod_slice ht h with ⟨hcs, _⟩ | ⟨a, len, cap, elems, rest, n, _, hcs, _, _, hl, hm, hel, hx, _, _⟩
  · simp only [List.cons.injEq, and_true] at hcs
    subst hcs
    exact ⟨[], Nat.zero_le _, fun i => tbB_0, rfl, .slc none 0 0 1 _ (fun _ _ => undef) (Nat.le_refl _) (fun i j hi => absurd hi (by omega)) (fun h => absurd h (by omega)) (fun i j hi => absurd hi (by omega))⟩
  · simp only [List.cons.injEq, and_true] at hcs
    subst hcs
    rw [hC] at hx
    have each : ∀ i, i < len → ∃ x : List Ent, tbB x ∧ ∀ j, j < 1 → ∃ v, W.cell? ((a.add (i * 1)).add j) = some v ∧ Vd.one v ∧ RelC W (fun _ => False) v (getAt (eEs std fun _ => x) j) := by
      intro i hi
      have h1 := hx i hi
      rw [List.getElem?_eq_getElem (by omega)] at h1
      exact tbs_one hE hC hs hC2 o0 k0 hs0 hone0 o1 k1 o2 k2 o3 k3 o4 k4 o5 k5 o6 k6 u0 u1 u2 u3 u4 u5 u6 u7 h1
    obtain ⟨F, hF⟩ : ∃ F : Nat → List Ent, ∀ i, i < len → tbB (F i) ∧ ∀ j, j < 1 → ∃ v, W.cell? ((a.add (i * 1)).add j) = some v ∧ Vd.one v ∧ RelC W (fun _ => False) v (getAt (eEs std fun _ => F i) j) :=
      ⟨fun i => if h : i < len then Classical.choose (each i h) else [], fun i h => by simp only [dif_pos h]; exact Classical.choose_spec (each i h)⟩
    have hadd : ∀ i j, a.add (i * 1 + j) = (a.add (i * 1)).add j := fun i j => by
      unfold Addr.add
      by_cases h1 : i = 0
      · subst h1
        simp
      · by_cases h2 : j = 0
        · subst h2
          simp
        · rw [if_neg (by omega), if_neg h2, if_neg (show ¬ i * 1 = 0 by omega)]
          simp [Nat.add_assoc]
    let L : List (List Ent) := (List.range len).map F
    have hlen : L.length = len := by simp [L]
    refine ⟨L, by rw [hlen]; omega, fun i => ?_, rfl, ?_⟩
    · by_cases hi : i < len
      · have e : L.getD i [] = F i := by simp [L, List.getD_eq_getElem?_getD, hi]
        rw [e]; exact (hF i hi).1
      · have e : L.getD i [] = [] := by rw [List.getD_eq_getElem?_getD, List.getElem?_eq_none (by rw [hlen]; omega)]; rfl
        rw [e]; exact tbB_0
    show RelC W (fun _ => False) _ (.slc L.length 1 (rowF eEs [] std fun _ => L))
    rw [hlen]
    have hget : ∀ i, i < len → L.getD i [] = F i := fun i hi => by simp [L, List.getD_eq_getElem?_getD, hi]
    refine .slc (some a) len cap 1 _ (fun i j => (W.cell? (a.add (i * 1 + j))).getD undef) hl (fun i j hi hj => ?_) (fun h0 => ⟨a, rfl, ?_⟩) (fun i j hi hj => ?_)
    · obtain ⟨v, h1, h2, _⟩ := (hF i hi).2 j hj
      rw [hadd, h1]
      exact ⟨a, rfl, (hadd i j).symm ▸ h1, h2, fun h => h⟩
    · obtain ⟨v, h1, _⟩ := (hF 0 h0).2 0 (by omega)
      simpa [Addr.add] using World.cell?_spot h1
    · obtain ⟨v, h1, _, h3⟩ := (hF i hi).2 j hj
      simp only [hadd, h1, Option.getD_some]
      show RelC W _ v (getAt (eEs std fun _ => L.getD i []) j)
      rw [hget i hi]
      exact h3
theorem open_tbs_rel {W : World} {base : Nat} {t e : TypeId} {v : Value} {d : DataW H} {p : List MemPlace} {ρ : Nat → Value} {N : Nat → Prop} (ht : P.underlying t = some (.slice e)) {q : TypeId} (hE : P.underlying e = some (.slice q)) (hC : P.cellsOf e = 1) {f0 f1 f2 f3 f4 f5 f6 g00 g01 : Field} (hs : P.underlying q = some (.struct #[f0, f1, f2, f3, f4, f5, f6])) (hC2 : P.cellsOf q = 8)
    (o0 : f0.offset = 0) (k0 : P.cellsOf f0.type = 2) (hs0 : P.underlying f0.type = some (.struct #[g00, g01])) (hone0 : oneCellFields P #[g00, g01] = true) (o1 : f1.offset = 2) (k1 : P.cellsOf f1.type = 1) (o2 : f2.offset = 3) (k2 : P.cellsOf f2.type = 1) (o3 : f3.offset = 4) (k3 : P.cellsOf f3.type = 1) (o4 : f4.offset = 5) (k4 : P.cellsOf f4.type = 1) (o5 : f5.offset = 6) (k5 : P.cellsOf f5.type = 1) (o6 : f6.offset = 7) (k6 : P.cellsOf f6.type = 1) (u0 : P.underlying g00.type = some (.int .u32)) (u1 : P.underlying g01.type = some (.string)) (u2 : P.underlying f1.type = some (.int .i64)) (u3 : P.underlying f2.type = some (.string)) (u4 : P.underlying f3.type = some (.int .u64)) (u5 : P.underlying f4.type = some (.string)) (u6 : P.underlying f5.type = some (.int .i64)) (u7 : P.underlying f6.type = some (.int .i64)) 
    (hval : Value.okWide P W .any base t v) (h : DataW.Trod enc P W 0 (fun _ => true) true t v d p) :
    ∃ L : List (List Ent), L.length ≤ maxLen ∧ (∀ i, tbB (L.getD i [])) ∧ Rel W ρ (fun _ => False) N v (rowS eEs [] 1 std fun _ => L) := by
  obtain ⟨a1, len, cap, rfl⟩ := okWide_slice ht hval
  obtain ⟨fuel, hf⟩ := h
  simp only [Value.cells] at hf
  obtain ⟨L, hL, hB, _, hr⟩ := open_tbs_trod ht hE hC hs hC2 o0 k0 hs0 hone0 o1 k1 o2 k2 o3 k3 o4 k4 o5 k5 o6 k6 u0 u1 u2 u3 u4 u5 u6 u7 (by simpa using hf)
  exact ⟨L, hL, hB, hr.rel⟩
end
end Go.Vd

