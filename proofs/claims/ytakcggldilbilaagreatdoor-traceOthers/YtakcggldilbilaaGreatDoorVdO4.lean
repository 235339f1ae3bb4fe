/- Deals: what is written and read, as lists. -/
import Derived.Test.YtakcggldilbilaaGreatDoorVdMM
import Derived.Test.YtakcggldilbilaaGreatDoorVdH9
import Derived.Test.YtakcggldilbilaaGreatDoorVdKM
import Derived.Test.YtakcggldilbilaaGreatDoorVdSeat
set_option linter.unusedVariables false
set_option linter.unusedSimpArgs false
set_option maxRecDepth 100000
set_option maxHeartbeats 4000000
namespace Go.Vd
open Go.Proofs
def tyOf (k : Int) : List UInt8 := if k = 1 then [48, 49, 48, 48] else if k = 2 then [48, 49, 49, 48] else if k = 3 then [48, 52, 48, 48] else if k = 4 then [48, 52, 49, 48] else if k = 5 then [48, 52, 50, 48] else if k = 6 then [48, 52, 50, 49] else if k = 7 then [48, 52, 51, 48] else []
def kdOf (T : List UInt8) : Int := if T = [48, 49, 48, 48] then 1 else if T = [48, 49, 49, 48] then 2 else if T = [48, 52, 48, 48] then 3 else if T = [48, 52, 49, 48] then 4 else if T = [48, 52, 50, 48] then 5 else if T = [48, 52, 50, 49] then 6 else if T = [48, 52, 51, 48] then 7 else 0
def fOf (k : Int) : List Int := if k = 5 ∨ k = 6 then [2, 4, 11, 37, 90] else if dAsks k = true then [2, 4, 11, 37] else [11, 37, 39]
/-- What field 90 must be. -/
def frst (x : List UInt8) : List UInt8 := [48, 49, 48, 48] ++ (x ++ List.replicate 32 48)
def dIs (k a s : Int) (p r c : List UInt8) : List It := if k = 5 ∨ k = 6 then [(2, p), (4, puS a 12), (11, puS s 6), (37, r), (90, frst (puS s 6))] else if dAsks k = true then [(2, p), (4, puS a 12), (11, puS s 6), (37, r)] else [(11, puS s 6), (37, r), (39, c)]
def tl (k : Int) : Bool := decide (k = 5) || decide (k = 6)
theorem tl_iff {k : Int} : tl k = true ↔ k = 5 ∨ k = 6 := by simp [tl]
theorem fo2 : dOk 2 = true ∧ dKd 2 = 3 ∧ dSz 2 = 19 := by decide +kernel
theorem fo4 : dOk 4 = true ∧ dKd 4 = 1 ∧ dSz 4 = 12 := by decide +kernel
theorem fo11 : dOk 11 = true ∧ dKd 11 = 1 ∧ dSz 11 = 6 := by decide +kernel
theorem fo90 : dOk 90 = true ∧ dKd 90 = 1 ∧ dSz 90 = 42 := by decide +kernel
theorem fo37 : dOk 37 = true ∧ dKd 37 = 2 ∧ dSz 37 = 12 := by decide +kernel
theorem fo39 : dOk 39 = true ∧ dKd 39 = 2 ∧ dSz 39 = 2 := by decide +kernel
theorem rr2 {p : List UInt8} : rr 2 p = true ↔ (1 ≤ (p.length : Int) ∧ (p.length : Int) ≤ 19) ∧ isD p = true := by rw [rr_of3 fo2.1 fo2.2.1, fo2.2.2]
theorem rr4 {p : List UInt8} : rr 4 p = true ↔ (p.length : Int) = 12 ∧ isD p = true := by rw [rr_of1 fo4.1 fo4.2.1, fo4.2.2]
theorem rr11 {p : List UInt8} : rr 11 p = true ↔ (p.length : Int) = 6 ∧ isD p = true := by rw [rr_of1 fo11.1 fo11.2.1, fo11.2.2]
theorem rr90 {p : List UInt8} : rr 90 p = true ↔ (p.length : Int) = 42 ∧ isD p = true := by rw [rr_of1 fo90.1 fo90.2.1, fo90.2.2]
theorem fine_isD {p : List UInt8} (h : lFine p = true) : isD p = true := by unfold lFine at h; simp at h; exact h.1
theorem isD_len {p : List UInt8} (h : isD p = true) : 1 ≤ p.length := by
  have := (isD_iff.1 h).1
  cases p with
  | nil => exact absurd rfl this
  | cons a l => simp
/-- A number within its digits. -/
theorem pu_in {v : Int} {k : Nat} (hk : 1 ≤ k ∧ k ≤ 19) (h0 : 0 ≤ v) (h : v.toNat < 10 ^ k) : puE v k = 0 ∧ puS v k = decs k v.toNat := by
  have := pu3 (v := v) (n := (k : Int)) (by omega) (by simpa using h)
  simpa [and_comm] using this
theorem get_isD {L : List UInt8} (h : isD L = true) (hl : L.length ≤ 19) : gErr L = 0 ∧ gVal L = dVal L ∧ dVal L < 10 ^ L.length := by
  have hd := (isD_iff.1 h).2
  have h1 := isD_len h
  have hlt := dVal_lt L hd
  have e := decs_dVal L hd
  have := get_decs (k := L.length) (V := dVal L) ⟨h1, hl⟩ hlt
  rw [e] at this
  exact ⟨this.1, this.2, hlt⟩
theorem frst_rr {x : List UInt8} (hx : isD x = true) (hl : x.length = 6) : rr 90 (frst x) = true := by
  rw [rr90]
  refine ⟨by simp [frst, hl], isD_iff.2 ⟨by simp [frst], fun b hb => ?_⟩⟩
  unfold frst at hb
  rw [List.mem_append, List.mem_append, List.mem_replicate] at hb
  rcases hb with hb | hb | ⟨_, rfl⟩
  · simp at hb
    rcases hb with rfl | rfl | rfl <;> decide
  · exact (isD_iff.1 hx).2 b hb
  · decide
theorem dR_iff {k a s : Int} {p r c : List UInt8} : dR k a s p r c = true ↔ (1 ≤ k ∧ k ≤ 7) ∧ s ≤ 999999 ∧ rr 37 r = true ∧ (dAsks k = true → lFine p = true ∧ (p.length : Int) ≤ 19 ∧ a < 1000000000000 ∧ c = []) ∧ (dAsks k = false → rr 39 c = true ∧ p = [] ∧ a = 0) := by
  unfold dR
  cases e : dAsks k <;> simp
theorem tyOf_T {k : Int} (h : 1 ≤ k ∧ k ≤ 7) : mT (tyOf k) = true ∧ kdOf (tyOf k) = k := by
  rcases (show k = 1 ∨ k = 2 ∨ k = 3 ∨ k = 4 ∨ k = 5 ∨ k = 6 ∨ k = 7 by omega) with rfl | rfl | rfl | rfl | rfl | rfl | rfl <;> decide
theorem kdOf_T {T : List UInt8} (h : mT T = true) : (1 ≤ kdOf T ∧ kdOf T ≤ 7) ∧ tyOf (kdOf T) = T := by
  unfold mT at h
  simp only [List.contains_eq_mem, List.mem_cons, List.not_mem_nil, or_false, decide_eq_true_eq] at h
  rcases h with rfl | rfl | rfl | rfl | rfl | rfl | rfl <;> decide
theorem asks_tl {k : Int} (h : k = 5 ∨ k = 6) : dAsks k = true := by rcases h with rfl | rfl <;> decide
def dKa (k : Int) : Prop := k = 5 ∨ k = 6
/-- What a deal that is right says. -/
theorem dR_parts {k a s : Int} {p r c : List UInt8} (h : dR k a s p r c = true) (ha : 0 ≤ a) (hs : 0 ≤ s) :
    puS s 6 = decs 6 s.toNat ∧ rr 11 (puS s 6) = true ∧ (gVal (puS s 6) : Int) = s ∧ puE s 6 = 0 ∧ rr 90 (frst (puS s 6)) = true ∧
    (dAsks k = true → puS a 12 = decs 12 a.toNat ∧ rr 4 (puS a 12) = true ∧ (gVal (puS a 12) : Int) = a ∧ puE a 12 = 0 ∧ rr 2 p = true) := by
  obtain ⟨hk, h1, h2, h3, h4⟩ := dR_iff.1 h
  have hs6 : s.toNat < 10 ^ 6 := by omega
  have q := pu_in (k := 6) (by omega) hs hs6
  have g := get_decs (k := 6) (V := s.toNat) (by omega) hs6
  have hd : isD (decs 6 s.toNat) = true := decs_is (by omega)
  have hl := decs_len 6 s.toNat
  have e6 : puS s 6 = decs 6 s.toNat := q.2
  refine ⟨e6, ?_, ?_, q.1, ?_, fun hk2 => ?_⟩
  · rw [e6, rr11, hl]; exact ⟨rfl, hd⟩
  · rw [e6, g.2]; omega
  · rw [e6]; exact frst_rr hd hl
  · obtain ⟨f1, f2, f3, f4⟩ := h3 hk2
    have ha12 : a.toNat < 10 ^ 12 := by omega
    have q := pu_in (k := 12) (by omega) ha ha12
    have g := get_decs (k := 12) (V := a.toNat) (by omega) ha12
    have hd : isD (decs 12 a.toNat) = true := decs_is (by omega)
    have hl := decs_len 12 a.toNat
    have e12 : puS a 12 = decs 12 a.toNat := q.2
    have hp := isD_len (fine_isD f1)
    exact ⟨e12, by rw [e12, rr4, hl]; exact ⟨rfl, hd⟩, by rw [e12, g.2]; omega, q.1, rr2.2 ⟨⟨by omega, f2⟩, fine_isD f1⟩⟩
theorem dIs_fs (k a s : Int) (p r c : List UInt8) : fs (dIs k a s p r c) = fOf k := by
  unfold dIs fOf
  split
  · rfl
  · split <;> rfl
theorem fOf_ups (k : Int) : ups (fOf k) := by
  unfold fOf ups
  split
  · decide
  · split <;> decide
theorem dIs_R {k a s : Int} {p r c : List UInt8} (h : dR k a s p r c = true) (ha : 0 ≤ a) (hs : 0 ≤ s) : mR (tyOf k) (dIs k a s p r c) = true := by
  obtain ⟨hk, h1, h2, h3, h4⟩ := dR_iff.1 h
  obtain ⟨q1, q2, q3, q4, q5, q6⟩ := dR_parts h ha hs
  rw [mR_iff]
  refine ⟨(tyOf_T hk).1, ?_, ?_, by rw [dIs_fs]; exact fOf_ups k⟩
  · unfold dIs
    split
    · simp
    · split <;> simp
  · intro x hx
    unfold dIs at hx
    split at hx
    · rename_i e
      have q6 := q6 (asks_tl e)
      simp only [List.mem_cons, List.not_mem_nil, or_false] at hx
      rcases hx with rfl | rfl | rfl | rfl | rfl
      · exact q6.2.2.2.2
      · exact q6.2.1
      · exact q2
      · exact h2
      · exact q5
    · split at hx
      · rename_i e
        have q6 := q6 e
        simp only [List.mem_cons, List.not_mem_nil, or_false] at hx
        rcases hx with rfl | rfl | rfl | rfl
        · exact q6.2.2.2.2
        · exact q6.2.1
        · exact q2
        · exact h2
      · rename_i e
        have h4 := h4 (by simpa using e)
        simp only [List.mem_cons, List.not_mem_nil, or_false] at hx
        rcases hx with rfl | rfl | rfl
        · exact q2
        · exact h2
        · exact h4.1
/-- Reading a deal. -/
def dE (T : List UInt8) (L : List It) : Int := if mR T L = false then 1 else if ¬fs L = fOf (kdOf T) then 3 else if dAsks (kdOf T) = false then 0 else if lFine (mG L 2) = false then 3 else if tl (kdOf T) = true ∧ ¬mG L 90 = frst (mG L 11) then 11 else 0
def xK (T : List UInt8) (L : List It) : Int := if dE T L = 0 then kdOf T else 0
def xA (T : List UInt8) (L : List It) : Int := if dE T L = 0 then (if dAsks (kdOf T) = true then (gVal (mG L 4) : Int) else 0) else 0
def xS (T : List UInt8) (L : List It) : Int := if dE T L = 0 then (gVal (mG L 11) : Int) else 0
def xP (T : List UInt8) (L : List It) : List UInt8 := if dE T L = 0 then (if dAsks (kdOf T) = true then mG L 2 else []) else []
def xR (T : List UInt8) (L : List It) : List UInt8 := if dE T L = 0 then mG L 37 else []
def xC (T : List UInt8) (L : List It) : List UInt8 := if dE T L = 0 then (if dAsks (kdOf T) = true then [] else mG L 39) else []
theorem dE_bad {T : List UInt8} {L : List It} (h : ¬dE T L = 0) : xK T L = 0 ∧ xA T L = 0 ∧ xS T L = 0 ∧ xP T L = [] ∧ xR T L = [] ∧ xC T L = [] := ⟨if_neg h, if_neg h, if_neg h, if_neg h, if_neg h, if_neg h⟩
theorem d_back {k a s : Int} {p r c : List UInt8} (h : dR k a s p r c = true) (ha : 0 ≤ a) (hs : 0 ≤ s) :
    dE (tyOf k) (dIs k a s p r c) = 0 ∧ xK (tyOf k) (dIs k a s p r c) = k ∧ xA (tyOf k) (dIs k a s p r c) = a ∧ xS (tyOf k) (dIs k a s p r c) = s ∧ xP (tyOf k) (dIs k a s p r c) = p ∧ xR (tyOf k) (dIs k a s p r c) = r ∧ xC (tyOf k) (dIs k a s p r c) = c := by
  obtain ⟨hk, h1, h2, h3, h4⟩ := dR_iff.1 h
  obtain ⟨q1, q2, q3, q4, q5, q6⟩ := dR_parts h ha hs
  have hm := dIs_R h ha hs
  have hT := tyOf_T hk
  have hE : dE (tyOf k) (dIs k a s p r c) = 0 := by
    unfold dE
    rw [hm, if_neg (by simp), hT.2, if_neg (by rw [dIs_fs]; simp)]
    by_cases e : dAsks k = true
    · rw [if_neg (by simp [e])]
      have h3 := h3 e
      have g2 : mG (dIs k a s p r c) 2 = p := by
        unfold dIs
        split
        · rfl
        · first | rfl | (rw [if_pos e]; rfl)
      rw [g2, if_neg (by rw [h3.1]; simp)]
      by_cases t : k = 5 ∨ k = 6
      · rw [if_neg]
        rintro ⟨_, hn⟩
        apply hn
        unfold dIs
        rw [if_pos t]
        rfl
      · rw [if_neg]
        rintro ⟨hn, _⟩
        exact t (tl_iff.1 hn)
    · rw [if_pos (by simpa using e)]
  refine ⟨hE, ?_, ?_, ?_, ?_, ?_, ?_⟩
  · unfold xK; rw [if_pos hE]; exact hT.2
  · unfold xA; rw [if_pos hE, hT.2]
    by_cases e : dAsks k = true
    · rw [if_pos e]
      have : mG (dIs k a s p r c) 4 = puS a 12 := by
        unfold dIs
        split
        · rfl
        · first | rfl | (rw [if_pos e]; rfl)
      rw [this]
      exact (q6 e).2.2.1
    · rw [if_neg e]
      exact (h4 (by simpa using e)).2.2.symm
  · unfold xS; rw [if_pos hE]
    have : mG (dIs k a s p r c) 11 = puS s 6 := by
      unfold dIs
      split
      · rfl
      · split <;> rfl
    rw [this]
    exact q3
  · unfold xP; rw [if_pos hE, hT.2]
    by_cases e : dAsks k = true
    · rw [if_pos e]
      unfold dIs
      split
      · rfl
      · first | rfl | (rw [if_pos e]; rfl)
    · rw [if_neg e]
      exact (h4 (by simpa using e)).2.1.symm
  · unfold xR; rw [if_pos hE]
    unfold dIs
    split
    · rfl
    · split <;> rfl
  · unfold xC; rw [if_pos hE, hT.2]
    by_cases e : dAsks k = true
    · rw [if_pos e]
      exact (h3 e).2.2.2.symm
    · rw [if_neg e]
      unfold dIs
      rw [if_neg (fun t => e (asks_tl t)), if_neg e]
      rfl
theorem fl3_of {L : List It} {a b c : Int} (h : fs L = [a, b, c]) : ∃ x y z, L = [(a, x), (b, y), (c, z)] := by
  match L, h with
  | [(a', x), (b', y), (c', z)], h => simp [fs] at h; obtain ⟨rfl, rfl, rfl⟩ := h; exact ⟨x, y, z, rfl⟩
theorem fl4_of {L : List It} {a b c d : Int} (h : fs L = [a, b, c, d]) : ∃ x y z u, L = [(a, x), (b, y), (c, z), (d, u)] := by
  match L, h with
  | [(a', x), (b', y), (c', z), (d', u)], h => simp [fs] at h; obtain ⟨rfl, rfl, rfl, rfl⟩ := h; exact ⟨x, y, z, u, rfl⟩
theorem fl5_of {L : List It} {a b c d e : Int} (h : fs L = [a, b, c, d, e]) : ∃ x y z u v, L = [(a, x), (b, y), (c, z), (d, u), (e, v)] := by
  match L, h with
  | [(a', x), (b', y), (c', z), (d', u), (e', v)], h => simp [fs] at h; obtain ⟨rfl, rfl, rfl, rfl, rfl⟩ := h; exact ⟨x, y, z, u, v, rfl⟩
/-- A field of digits, read and written. -/
theorem num_back {n : Int} {k : Nat} {x : List UInt8} (hk : 1 ≤ k ∧ k ≤ 18) (hl : (x.length : Int) = k) (hd : isD x = true) : puS (gVal x : Int) k = x ∧ gVal x < 10 ^ k := by
  have hl : x.length = k := by omega
  have g := get_isD hd (by omega)
  have := (get_put g.1).2
  rw [hl] at this
  refine ⟨this, ?_⟩
  rw [g.2.1, ← hl]
  exact g.2.2
theorem d_good {T : List UInt8} {L : List It} (h : dE T L = 0) : dR (xK T L) (xA T L) (xS T L) (xP T L) (xR T L) (xC T L) = true ∧ tyOf (xK T L) = T ∧ dIs (xK T L) (xA T L) (xS T L) (xP T L) (xR T L) (xC T L) = L ∧ 0 ≤ xA T L ∧ 0 ≤ xS T L := by
  have hm : mR T L = true := by
    unfold dE at h
    cases e : mR T L
    · rw [if_pos e] at h; cases h
    · rfl
  have hmi := mR_iff.1 hm
  have hT := kdOf_T hmi.1
  have hf : fs L = fOf (kdOf T) := by
    unfold dE at h
    rw [if_neg (by simp [hm])] at h
    by_cases e : fs L = fOf (kdOf T)
    · exact e
    · rw [if_pos e] at h; cases h
  have hE := h
  unfold dE at h
  rw [if_neg (by simp [hm]), if_neg (by simp [hf])] at h
  have hK : xK T L = kdOf T := if_pos hE
  have hA : xA T L = if dAsks (kdOf T) = true then (gVal (mG L 4) : Int) else 0 := if_pos hE
  have hS : xS T L = (gVal (mG L 11) : Int) := if_pos hE
  have hP : xP T L = if dAsks (kdOf T) = true then mG L 2 else [] := if_pos hE
  have hR : xR T L = mG L 37 := if_pos hE
  have hC : xC T L = if dAsks (kdOf T) = true then [] else mG L 39 := if_pos hE
  rw [hK, hA, hS, hP, hR, hC]
  generalize kdOf T = k at *
  have hr := hmi.2.2.1
  rw [dR_iff]
  by_cases t : k = 5 ∨ k = 6
  · have e := asks_tl t
    rw [fOf, if_pos t] at hf
    obtain ⟨x1, x2, x3, x4, x5, rfl⟩ := fl5_of hf
    have r1 : rr 2 x1 = true := hr _ (show ((2 : Int), x1) ∈ _ by simp)
    have r2 : rr 4 x2 = true := hr _ (show ((4 : Int), x2) ∈ _ by simp)
    have r3 : rr 11 x3 = true := hr _ (show ((11 : Int), x3) ∈ _ by simp)
    have r4 : rr 37 x4 = true := hr _ (show ((37 : Int), x4) ∈ _ by simp)
    have n2 : puS (gVal x2 : Int) 12 = x2 ∧ gVal x2 < 10 ^ 12 := num_back (n := 0) (k := 12) (by omega) (rr4.1 r2).1 (rr4.1 r2).2
    have n3 : puS (gVal x3 : Int) 6 = x3 ∧ gVal x3 < 10 ^ 6 := num_back (n := 0) (k := 6) (by omega) (rr11.1 r3).1 (rr11.1 r3).2
    have m1 : mG [((2 : Int), x1), (4, x2), (11, x3), (37, x4), (90, x5)] 2 = x1 := rfl
    have m2 : mG [((2 : Int), x1), (4, x2), (11, x3), (37, x4), (90, x5)] 4 = x2 := rfl
    have m3 : mG [((2 : Int), x1), (4, x2), (11, x3), (37, x4), (90, x5)] 11 = x3 := rfl
    have m4 : mG [((2 : Int), x1), (4, x2), (11, x3), (37, x4), (90, x5)] 37 = x4 := rfl
    have m5 : mG [((2 : Int), x1), (4, x2), (11, x3), (37, x4), (90, x5)] 90 = x5 := rfl
    rw [m1, m3, m5, if_neg (by simp [e])] at h
    have hfine : lFine x1 = true := by
      cases q : lFine x1
      · rw [if_pos q] at h; cases h
      · rfl
    rw [if_neg (by simp [hfine])] at h
    have h90 : x5 = frst x3 := by
      by_cases q : x5 = frst x3
      · exact q
      · rw [if_pos ⟨tl_iff.2 t, q⟩] at h; cases h
    rw [if_pos e, if_pos e, if_pos e, m1, m2, m3, m4]
    have b3 := n3.2
    have b2 := n2.2
    refine ⟨⟨hT.1, by omega, r4, fun _ => ⟨hfine, (rr2.1 r1).1.2, by omega, rfl⟩, fun q => by rw [e] at q; cases q⟩, hT.2, ?_, by omega, by omega⟩
    unfold dIs
    rw [if_pos t, n2.1, n3.1, h90]
  · by_cases e : dAsks k = true
    · rw [fOf, if_neg t, if_pos e] at hf
      obtain ⟨x1, x2, x3, x4, rfl⟩ := fl4_of hf
      have r1 : rr 2 x1 = true := hr _ (show ((2 : Int), x1) ∈ _ by simp)
      have r2 : rr 4 x2 = true := hr _ (show ((4 : Int), x2) ∈ _ by simp)
      have r3 : rr 11 x3 = true := hr _ (show ((11 : Int), x3) ∈ _ by simp)
      have r4 : rr 37 x4 = true := hr _ (show ((37 : Int), x4) ∈ _ by simp)
      have n2 : puS (gVal x2 : Int) 12 = x2 ∧ gVal x2 < 10 ^ 12 := num_back (n := 0) (k := 12) (by omega) (rr4.1 r2).1 (rr4.1 r2).2
      have n3 : puS (gVal x3 : Int) 6 = x3 ∧ gVal x3 < 10 ^ 6 := num_back (n := 0) (k := 6) (by omega) (rr11.1 r3).1 (rr11.1 r3).2
      have m1 : mG [((2 : Int), x1), (4, x2), (11, x3), (37, x4)] 2 = x1 := rfl
      have m2 : mG [((2 : Int), x1), (4, x2), (11, x3), (37, x4)] 4 = x2 := rfl
      have m3 : mG [((2 : Int), x1), (4, x2), (11, x3), (37, x4)] 11 = x3 := rfl
      have m4 : mG [((2 : Int), x1), (4, x2), (11, x3), (37, x4)] 37 = x4 := rfl
      rw [m1, if_neg (by simp [e])] at h
      have hfine : lFine x1 = true := by
        cases q : lFine x1
        · rw [if_pos q] at h; cases h
        · rfl
      rw [if_pos e, if_pos e, if_pos e, m1, m2, m3, m4]
      have b3 := n3.2
      have b2 := n2.2
      refine ⟨⟨hT.1, by omega, r4, fun _ => ⟨hfine, (rr2.1 r1).1.2, by omega, rfl⟩, fun q => by rw [e] at q; cases q⟩, hT.2, ?_, by omega, by omega⟩
      unfold dIs
      rw [if_neg t, if_pos e, n2.1, n3.1]
    · rw [fOf, if_neg t, if_neg e] at hf
      obtain ⟨x3, x4, x5, rfl⟩ := fl3_of hf
      have r3 : rr 11 x3 = true := hr _ (show ((11 : Int), x3) ∈ _ by simp)
      have r4 : rr 37 x4 = true := hr _ (show ((37 : Int), x4) ∈ _ by simp)
      have r5 : rr 39 x5 = true := hr _ (show ((39 : Int), x5) ∈ _ by simp)
      have n3 : puS (gVal x3 : Int) 6 = x3 ∧ gVal x3 < 10 ^ 6 := num_back (n := 0) (k := 6) (by omega) (rr11.1 r3).1 (rr11.1 r3).2
      have m3 : mG [((11 : Int), x3), (37, x4), (39, x5)] 11 = x3 := rfl
      have m4 : mG [((11 : Int), x3), (37, x4), (39, x5)] 37 = x4 := rfl
      have m5 : mG [((11 : Int), x3), (37, x4), (39, x5)] 39 = x5 := rfl
      rw [if_neg e, if_neg e, if_neg e, m3, m4, m5]
      have b3 := n3.2
      refine ⟨⟨hT.1, by omega, r4, fun q => absurd q e, fun _ => ⟨r5, rfl, rfl⟩⟩, hT.2, ?_, by omega, by omega⟩
      unfold dIs
      rw [if_neg t, if_neg e, n3.1]
end Go.Vd

set_option linter.unusedVariables false
set_option linter.unusedSimpArgs false
set_option maxRecDepth 100000
set_option maxHeartbeats 4000000
namespace Go.Vd
open Go.Proofs
noncomputable def iGet : Nat → Option Func := addI 137 Tryz.f137 (addI 138 Tryz.f138 noI)
theorem iGet_ok : InOk Tryz.prog iGet := addI_ok (addI_ok noI_ok Tryz.func138 (by kernel_rfl)) Tryz.func137 (by kernel_rfl)
theorem good_mGet (T : List UInt8) (L : List It) (n : Int) (hL : L.length ≤ 1000000) : GoodP Tryz.prog gl0 90 [.agg [.str T, rowS eI (0, []) 2 std fun _ => L], .int .i64 n] (.tup [.str (std.ts fun _ => mG L n), .bool (std.tb fun _ => mH L n)]) := by
  refine fn_sound' (T := seatT) (G := noC) (X := noX) seatT_ok noC_ok noX_ok iGet_ok mixed Tryz.func90 (.one) (fun A => [.agg [.str T, rowS eI (0, []) 2 A fun _ => L], .int .i64 n]) (fun A => .tup [.str (A.ts fun _ => mG L n), .bool (A.tb fun _ => mH L n)]) fun A hA => ?_
  cbv
  repeat' (first | with_reducible exact True.intro | with_reducible exact dr_ok hA (by kernel_rfl) | with_reducible refine And.intro ?_ ?_ | (intro hc; cbv))
  refine ⟨⟨{i : Nat // i ≤ L.length ∧ ∀ j, j < i → ¬(L.getD j (0, [])).1 = n}, fun b i => [(8, .int .i64 (i.1 : Nat))], fun b i => [], fun i => L.length - i.1, true⟩, ⟨⟨0, by omega, fun j hj => absurd hj (by omega)⟩, ?_⟩, ?_⟩
  · cbv
    subst hA
    simp [-List.getD_eq_getElem?_getD, sS]
  · rintro ⟨i, hi, h0⟩
    cbv
    repeat' (first | with_reducible exact True.intro | with_reducible exact dr_ok hA (by kernel_rfl) | with_reducible refine And.intro ?_ ?_ | (intro hc; cbv))
    all_goals first
      | (fail_if_success (refine Exists.intro ?_ ?_)
         subst hA
         simp [-List.getD_eq_getElem?_getD, sS] at *
         done)
      | (fail_if_success (refine Exists.intro ?_ ?_)
         subst hA
         simp [-List.getD_eq_getElem?_getD, sS] at *
         first
           | omega
           | (have e : (L.getD i (0, [])).1 = n := by assumption
              have := mG_at (by omega) h0 e
              first
                | (rw [this.1]; done)
                | (rw [this.2]; done))
           | (have hie : i = L.length := by omega
              subst hie
              have := mG_none h0
              first
                | (rw [this.1]; done)
                | (rw [this.2]; done))
           | trace_state)
      | (have hlt : i < L.length := by (clear h0; subst hA; simp [-List.getD_eq_getElem?_getD, sS] at *; omega)
         have hne : ¬(L.getD i (0, [])).1 = n := by (clear h0; subst hA; simp [-List.getD_eq_getElem?_getD, sS] at *; assumption)
         refine ⟨⟨i + 1, by omega, fun j hj => ?_⟩, ?_, show L.length - (i + 1) < L.length - i by omega⟩
         · by_cases e : j = i
           · subst e; exact hne
           · exact h0 j (by omega)
         cbv
         subst hA
         simp [sS]
         exact (w64 (by omega)).trans (by omega))
      | trace_state
noncomputable def c_mGet : Ct := fun A args => match args with
  | [.agg [.str T, .slc n 2 f], .int .i64 z] => some (some (A.tp fun _ => isRow eI (0, []) 2 n f ∧ n ≤ 1000000), .tup [.str (A.ts fun _ => mG (lstOf eI (0, []) 2 n f) z), .bool (A.tb fun _ => mH (lstOf eI (0, []) 2 n f) z)])
  | _ => none
noncomputable def c_bOf : Ct := fun A args => match args with
  | [.slc n 1 f] => some (some (A.tp fun _ => isRow eZ 0 1 n f ∧ n ≤ 9223372036854775807), r9 A fun _ => lstOf eZ 0 1 n f)
  | _ => none
noncomputable def c_bFields : Ct := fun A args => match args with
  | [.agg [.int .u64 h, .int .u64 l]] => some (some (A.tp fun _ => r64 h ∧ r64 l), r16 A h l)
  | _ => none
noncomputable def c_bRead : Ct := fun A args => match args with
  | [.slc n 1 f] => some (some (A.tp fun _ => isRow eB 0 1 n f ∧ n ≤ 9223372036854775807), r20 A fun _ => lstOf eB 0 1 n f)
  | _ => none
noncomputable def c_bBytes : Ct := fun A args => match args with
  | [.agg [.int .u64 h, .int .u64 l]] => some (some (A.tp fun _ => r64 h ∧ r64 l), r18 A h l)
  | _ => none
noncomputable def c_Concat : Ct := fun A args => match args with
  | [.slc n 1 f] => some (some (A.tp fun _ => isRow eBs [] 1 n f ∧ bsSmall (lstOf eBs [] 1 n f)), rowS eB 0 1 A fun _ => (lstOf eBs [] 1 n f).flatten)
  | _ => none
noncomputable def c_mIsT2 : Ct := fun A args => match args with
  | [.str s] => some (none, .bool (A.tb fun _ => mT s))
  | _ => none
noncomputable def c_mRight2 : Ct := fun A args => match args with
  | [.agg [.str T, .slc n 2 f]] => some (some (A.tp fun _ => isRow eI (0, []) 2 n f ∧ n ≤ 1000000 ∧ ∀ i, ((lstOf eI (0, []) 2 n f).getD i (0, [])).2.length ≤ 1000000), .bool (A.tb fun _ => mR T (lstOf eI (0, []) 2 n f)))
  | _ => none
noncomputable def gM0 : Ar → Pu := addC 90 c_mGet (addC 110 c_bOf (addC 86 c_bFields (addC 84 c_bRead (addC 111 c_bBytes (addC 52 c_Concat (addC 83 c_mIsT2 (addC 55 c_mRight2 (gh6))))))))
theorem gM0_ok : PuOk Tryz.prog gl0 (gM0 std) := by
  refine addC_ok (addC_ok (addC_ok (addC_ok (addC_ok (addC_ok (addC_ok (addC_ok (gh6_ok) ⟨_, Tryz.func55, rfl, by decide⟩ ?_) ⟨_, Tryz.func83, rfl, by decide⟩ ?_) ⟨_, Tryz.func52, rfl, by decide⟩ ?_) ⟨_, Tryz.func111, rfl, by decide⟩ ?_) ⟨_, Tryz.func84, rfl, by decide⟩ ?_) ⟨_, Tryz.func86, rfl, by decide⟩ ?_) ⟨_, Tryz.func110, rfl, by decide⟩ ?_) ⟨_, Tryz.func90, rfl, by decide⟩ ?_
  · intro args p r h hp
    unfold c_mRight2 at h
    split at h <;> cases h
    exact good_mRight' hp
  · intro args p r h hp
    unfold c_mIsT2 at h
    split at h <;> cases h
    exact good_mIsT _
  · intro args p r h hp
    unfold c_Concat at h
    split at h <;> cases h
    exact good_sv (good_Concat _ hp.2) ⟨hp.1.sv, trivial⟩
  · intro args p r h hp
    unfold c_bBytes at h
    split at h <;> cases h
    exact good18 hp.1 hp.2
  · intro args p r h hp
    unfold c_bRead at h
    split at h <;> cases h
    exact c20_ok hp
  · intro args p r h hp
    unfold c_bFields at h
    split at h <;> cases h
    exact good16 hp.1 hp.2
  · intro args p r h hp
    unfold c_bOf at h
    split at h <;> cases h
    exact good_sv (good9 _ (by rw [lstOf_length hp.1]; exact hp.2)) ⟨hp.1.sv, trivial⟩
  · intro args p r h hp
    unfold c_mGet at h
    split at h <;> cases h
    exact good_sv (good_mGet _ _ _ (by rw [lstOf_length hp.1]; exact hp.2)) ⟨⟨_, rfl, rfl, hp.1.sv, trivial⟩, rfl, trivial⟩
theorem bofS_lt : ∀ (L : List Int) (h l : Nat) (m : Nat × Nat), h < 18446744073709551616 → l < 18446744073709551616 → L.foldl (fun o n => o.bind fun m => if bright m.1 m.2 && bfield n then some (bput m.1 m.2 n) else none) (some (h, l)) = some m → m.1 < 18446744073709551616 ∧ m.2 < 18446744073709551616
  | [], h, l, m, hh, hl, e => by cases e; exact ⟨hh, hl⟩
  | n :: L, h, l, m, hh, hl, e => by
    rw [List.foldl_cons] at e
    simp only [Option.bind_some] at e
    split at e
    · have := bput_lt n hh hl
      exact bofS_lt L _ _ m this.1 this.2 e
    · rw [bofS_none (fun m n => if bright m.1 m.2 && bfield n then some (bput m.1 m.2 n) else none)] at e
      cases e
theorem bof_lt (L : List Int) : (bof L).1 < 18446744073709551616 ∧ (bof L).2 < 18446744073709551616 := by
  unfold bof
  cases e : bofS L with
  | none => exact ⟨by decide, by decide⟩
  | some m => exact bofS_lt L 0 0 m (by decide) (by decide) e
def boB (L : List Int) : List UInt8 := if boferr L = 0 then bbytes (bof L).1 (bof L).2 else []
def boE (L : List Int) : Int := if boferr L = 0 then bbErr (bof L).1 (bof L).2 else boferr L
theorem bo_yes {L : List Int} (h : boferr L = 0) : boB L = bbytes (bof L).1 (bof L).2 ∧ boE L = bbErr (bof L).1 (bof L).2 := ⟨if_pos h, if_pos h⟩
theorem bo_no {L : List Int} (h : ¬boferr L = 0) : boB L = [] ∧ boE L = boferr L := ⟨if_neg h, if_neg h⟩
theorem good_bitsOf (L : List Int) (hL : L.length ≤ 1000000) : GoodP Tryz.prog gl0 57 [rowS eZ 0 1 std fun _ => L] (.tup [.frs 5 1 (std.tn fun _ => (boB L).length) (rowF eB 0 std fun _ => boB L), .int .i64 (std.ti fun _ => boE L)]) := by
  refine fn_sound' (T := seatT) (G := gM0) (X := noX) seatT_ok gM0_ok noX_ok noI_ok mixed Tryz.func57 (.fresh 5 1) (fun A => [rowS eZ 0 1 A fun _ => L]) (fun A => .tup [.frs 5 1 (A.tn fun _ => (boB L).length) (rowF eB 0 A fun _ => boB L), .int .i64 (A.ti fun _ => boE L)]) fun A hA => ?_
  cbv
  repeat' (first | with_reducible exact True.intro | with_reducible exact dr_ok hA (by kernel_rfl) | with_reducible refine And.intro ?_ ?_ | (intro hc; cbv))
  all_goals (have hb := bof_lt L)
  all_goals (subst hA; simp [sS, strOf_lit, lstOf_lit inj_eB, lstOf_lit inj_eZ, lstOf_lit inj_eBs, lstOf_lit inj_eS, isRow_lit, isB_lit, isRow_nil, lstOf_nil inj_eB, lstOf_nil inj_eZ, lstOf_nil inj_eBs, lstOf_nil inj_eS] at *)
  all_goals first
    | omega
    | exact ⟨r64_of hb.1, r64_of hb.2⟩
    | (have hx := bo_no hc
       first
         | (rw [hx.1]; done)
         | (rw [hx.1]; rfl)
         | (rw [hx.2]; done)
         | (rw [hx.1]; exact fun i j hi => absurd hi (by simp)))
    | (have hx := bo_yes hc
       first
         | (rw [hx.1]; done)
         | (rw [hx.2]; done)
         | (rw [hx.1]; exact (Reps.lit _).eqr))
    | trace_state
noncomputable def c_bitsOf : Ct := fun A args => match args with
  | [.slc n 1 f] => some (some (A.tp fun _ => isRow eZ 0 1 n f ∧ n ≤ 1000000), .tup [.frs 5 1 (A.tn fun _ => (boB (lstOf eZ 0 1 n f)).length) (rowF eB 0 A fun _ => boB (lstOf eZ 0 1 n f)), .int .i64 (A.ti fun _ => boE (lstOf eZ 0 1 n f))])
  | _ => none
noncomputable def gM1 : Ar → Pu := addC 57 c_bitsOf (gM0)
theorem gM1_ok : PuOk Tryz.prog gl0 (gM1 std) := by
  refine addC_ok (gM0_ok) ⟨_, Tryz.func57, rfl, by decide⟩ ?_
  · intro args p r h hp
    unfold c_bitsOf at h
    split at h <;> cases h
    exact good_sv (good_bitsOf _ (by rw [lstOf_length hp.1]; exact hp.2)) ⟨hp.1.sv, trivial⟩
theorem fs_take {L : List It} {i : Nat} (h : i < L.length) : fs (L.take (i + 1)) = fs (L.take i) ++ [(L.getD i (0, [])).1] := by
  rw [← take_snoc (d := (0, [])) h]; simp [fs]
theorem body_take {L : List It} {i : Nat} (h : i < L.length) : body (L.take (i + 1)) = body (L.take i) ++ fWr (L.getD i (0, [])).1 (L.getD i (0, [])).2 := by
  rw [← take_snoc (d := (0, [])) h, body_app]; simp [body]
theorem fWr_len {n : Int} {s : List UInt8} (h : rr n s = true) : (fWr n s).length ≤ s.length + 3 := by
  by_cases hk : dKd n < 3
  · rw [(we_fix h hk).2]; omega
  · rw [(we_long h (by omega)).2, List.length_append, decs_len]
    have := fAh_le (dKd n)
    omega
theorem body_len {L : List It} (h : ∀ x ∈ L, rr x.1 x.2 = true) : (body L).length ≤ L.length * 1002 := by
  induction L with
  | nil => simp [body]
  | cons x L ih =>
    rw [body_cons, List.length_append, List.length_cons]
    have h1 := fWr_len (h x (by simp))
    have h2 := rr_ok (h x (by simp))
    have h3 := dOk_b h2.1
    have := ih fun y hy => h y (List.mem_cons_of_mem _ hy)
    omega
def mWx (T : List UInt8) (L : List It) : List UInt8 := if mR T L = true then mW T L else []
def mWe (T : List UInt8) (L : List It) : Int := if mR T L = true then 0 else 1
theorem mw_no {T : List UInt8} {L : List It} (h : mR T L = false) : mWx T L = [] ∧ mWe T L = 1 := by unfold mWx mWe; rw [h]; exact ⟨rfl, rfl⟩
theorem mw_yes {T : List UInt8} {L : List It} (h : mR T L = true) : mWx T L = mW T L ∧ mWe T L = 0 := by unfold mWx mWe; rw [h]; exact ⟨rfl, rfl⟩
theorem rr_at {L : List It} (h : ∀ x ∈ L, rr x.1 x.2 = true) {i : Nat} (hi : i < L.length) : rr (L.getD i (0, [])).1 (L.getD i (0, [])).2 = true := by
  rw [List.getD_eq_getElem?_getD, List.getElem?_eq_getElem hi]
  exact h _ (List.getElem_mem hi)
theorem three_rows {n1 n2 n3 : Nat} {f1 f2 f3 : Nat → Nat → SV} {X Y Z : List UInt8} (h1 : Reps eB 0 1 n1 f1 X) (h2 : Reps eB 0 1 n2 f2 Y) (h3 : Reps eB 0 1 n3 f3 Z) : Reps eBs [] 1 3 (lstS [[.slc n1 1 f1], [.slc n2 1 f2], [.slc n3 1 f3]]) [X, Y, Z] :=
  Reps.lst (l := [[_], [_], [_]]) (L := [X, Y, Z]) ⟨cell_eBs h1, cell_eBs h2, cell_eBs h3, trivial⟩
theorem good_mWrite (T : List UInt8) (L : List It) (hL : L.length ≤ 500) (hS : ∀ i, (L.getD i (0, [])).2.length ≤ 1000000) : GoodP Tryz.prog gl0 20 [.agg [.str T, rowS eI (0, []) 2 std fun _ => L]] (.tup [rowS eB 0 1 std fun _ => mWx T L, .int .i64 (std.ti fun _ => mWe T L)]) := by
  refine fn_sound' (T := seatT) (G := gM1) (X := noX) seatT_ok gM1_ok noX_ok noI_ok mixed Tryz.func20 (.none) (fun A => [.agg [.str T, rowS eI (0, []) 2 A fun _ => L]]) (fun A => .tup [rowS eB 0 1 A fun _ => mWx T L, .int .i64 (A.ti fun _ => mWe T L)]) fun A hA => ?_
  cbv
  repeat' (first | with_reducible exact True.intro | with_reducible exact dr_ok hA (by kernel_rfl) | with_reducible refine And.intro ?_ ?_ | (intro hc; cbv))
  all_goals first
    | (fail_if_success (refine Exists.intro ?_ ?_)
       subst hA
       simp [sS, lstOf_lit inj_eI] at *
       first
         | done
         | exact ⟨isRow_lit _, by omega, hS⟩
         | (rw [(mw_no hc).1]; done)
         | (rw [(mw_no hc).1]; rfl)
         | (rw [(mw_no hc).2]; done)
         | trace_state)
    | skip
  have hr : mR T L = true := by subst hA; simp [sS, lstOf_lit inj_eI] at hc; exact hc
  have hri := mR_iff.1 hr
  clear hc
  refine ⟨⟨{p : Nat × List Int × List UInt8 // p.1 ≤ L.length ∧ p.2.1 = fs (L.take p.1) ∧ p.2.2 = body (L.take p.1)}, fun b p => [(18, .int .i64 (p.1.1 : Nat)), (4, .own b), (5, .own (b + 1))], fun b p => [(b, .row 3 1 (A.tn fun _ => p.1.2.1.length) (rowF eZ 0 A fun _ => p.1.2.1)), (b + 1, .row 5 1 (A.tn fun _ => p.1.2.2.length) (rowF eB 0 A fun _ => p.1.2.2))], fun p => L.length - p.1.1, true⟩, ⟨⟨(0, [], []), by simp [fs, body]⟩, ?_⟩, ?_⟩
  · cbv
    subst hA
    simp [-List.getD_eq_getElem?_getD, sS]
  · rintro ⟨⟨i, F, B⟩, hi, hF, hB⟩
    simp only at hi hF hB
    cbv
    repeat' (first | with_reducible exact True.intro | with_reducible exact dr_ok hA (by kernel_rfl) | with_reducible refine And.intro ?_ ?_ | (intro hc; cbv))
    all_goals first
      | (fail_if_success (refine Exists.intro ?_ ?_)
         have hlt : i < L.length := by (clear hri hr hS; subst hA; simp [sS] at *; omega)
         have hrr := rr_at hri.2.2.1 hlt
         have hwe : fWe (L.getD i (0, [])).1 (L.getD i (0, [])).2 = 0 := by unfold fWe; rw [(rr_ok hrr).1, hrr]; rfl
         have hbl := body_len (L := L.take i) (fun x hx => hri.2.2.1 x (List.mem_of_mem_take hx))
         have hwl := fWr_len hrr
         have hsl := hS i
         have hfl : (fs (L.take i)).length = i := by simp [fs]; omega
         have htl : (L.take i).length = i := by simp; omega
         rw [htl] at hbl
         subst hA
         simp [-List.getD_eq_getElem?_getD, sS, hwe, hF, hB] at *
         first
           | done
           | omega
           | assumption
           | (constructor <;> omega))
      | (have hlt : i < L.length := by (clear hri hr hS; subst hA; simp [sS] at *; omega)
         obtain ⟨i', hi'⟩ : ∃ i', i' = i + 1 := ⟨_, rfl⟩
         obtain ⟨F', hF'⟩ : ∃ F', F' = fs (L.take i') := ⟨_, rfl⟩
         obtain ⟨B', hB'⟩ : ∃ B', B' = body (L.take i') := ⟨_, rfl⟩
         refine ⟨⟨(i', F', B'), by omega, hF', hB'⟩, ?_, show L.length - i' < L.length - i by omega⟩
         rw [hi', fs_take hlt, ← hF] at hF'
         rw [hi', body_take hlt, ← hB] at hB'
         cbv
         subst hA
         simp [-List.getD_eq_getElem?_getD, sS, strOf_lit, lstOf_lit inj_eB, lstOf_lit inj_eZ, lstOf_lit inj_eBs, lstOf_lit inj_eS, isRow_lit, isB_lit, isRow_nil, lstOf_nil inj_eB, lstOf_nil inj_eZ, lstOf_nil inj_eBs, lstOf_nil inj_eS]
         first
           | exact ⟨(w64 (by omega)).trans (by omega), ⟨by rw [hB']; simp, eqr_of (Reps.catE (.lit _) (.lit _) rfl) (by rw [hB']; simp) hB'.symm⟩, by rw [hF']; simp, snoc_row rfl (cell_eZ _) hF'.symm (by rw [hF']; simp)⟩
           | trace_state)
      | skip
    all_goals
      have hie : i = L.length := by (clear hri hr hS; subst hA; simp [sS] at *; omega)
      rw [hie, List.take_length] at hF hB
      obtain ⟨b1, b2, b3, b4, b5, b6⟩ := bof_ups hri.2.2.2 (fs_bf hri.2.2.1)
      have hw := mw_yes hr
      have hbl := body_len (L := L) hri.2.2.1
      have hfl : (fs L).length = L.length := by simp [fs]
      have hbo : boB (fs L) = mBits L ∧ boE (fs L) = 0 := by rw [(bo_yes b6).1, (bo_yes b6).2]; exact ⟨rfl, by unfold bbErr; rw [b2]; rfl⟩
      have hT := mT_len hri.1
      have hbb := bb_len b2
      have h3 := three_rows (row_bytes T) (Reps.lit (enc := eB) (d := 0) (k := 1) (mBits L)) (Reps.lit (enc := eB) (d := 0) (k := 1) (body L))
      have hl3 := lstOf_eq inj_eBs h3
      have hw3 : [T, mBits L, body L].flatten = mW T L := by simp [mW]
      have hsm : bsSmall [T, mBits L, body L] := by
        refine ⟨by simp, ?_⟩
        intro b hb
        simp only [List.mem_cons, List.not_mem_nil, or_false] at hb
        rcases hb with rfl | rfl | rfl
        · omega
        · unfold mBits; rw [hbb]; split <;> omega
        · omega
      subst hA
      simp [-List.getD_eq_getElem?_getD, sS, strOf_lit, lstOf_lit inj_eB, lstOf_lit inj_eZ, lstOf_lit inj_eBs, lstOf_lit inj_eS, isRow_lit, isB_lit, isRow_nil, lstOf_nil inj_eB, lstOf_nil inj_eZ, lstOf_nil inj_eBs, lstOf_nil inj_eS, hF, hB, hbo] at *
      first
        | done
        | omega
        | (rw [hl3]; exact ⟨⟨_, h3⟩, hsm⟩)
        | (rw [hl3, hw.1]; simp [mW]; done)
        | (rw [hl3, hw.1, hw3]; exact (Reps.lit _).eqr)
        | exact hw.2.symm
        | (rw [hw.2]; done)
        | trace_state
noncomputable def c_mWrite : Ct := fun A args => match args with
  | [.agg [.str T, .slc n 2 f]] => some (some (A.tp fun _ => isRow eI (0, []) 2 n f ∧ n ≤ 500 ∧ ∀ i, ((lstOf eI (0, []) 2 n f).getD i (0, [])).2.length ≤ 1000000), .tup [rowS eB 0 1 A fun _ => mWx T (lstOf eI (0, []) 2 n f), .int .i64 (A.ti fun _ => mWe T (lstOf eI (0, []) 2 n f))])
  | _ => none
noncomputable def gM2 : Ar → Pu := addC 20 c_mWrite (gM1)
theorem gM2_ok : PuOk Tryz.prog gl0 (gM2 std) := by
  refine addC_ok (gM1_ok) ⟨_, Tryz.func20, rfl, by decide⟩ ?_
  · intro args p r h hp
    unfold c_mWrite at h
    split at h <;> cases h
    exact good_sv (good_mWrite _ _ (by rw [lstOf_length hp.1]; exact hp.2.1) hp.2.2) ⟨⟨_, rfl, rfl, hp.1.sv, trivial⟩, trivial⟩
end Go.Vd

set_option linter.unusedVariables false
set_option linter.unusedSimpArgs false
set_option maxRecDepth 100000
set_option maxHeartbeats 4000000
namespace Go.Vd
open Go.Proofs
/-- Fields and their bytes, as items. -/
def iE (F : List Int) (B : List UInt8) : Int := if F = [] then 3 else if ¬(itF F B).1 = 0 then (itF F B).1 else if (itF F B).2.2 = [] then 0 else 4
def iL (F : List Int) (B : List UInt8) : List It := if iE F B = 0 then (itF F B).2.1 else []
theorem iE_1 {F : List Int} {B : List UInt8} (h : F = []) : iE F B = 3 ∧ iL F B = [] := by
  have e : iE F B = 3 := if_pos h
  exact ⟨e, by unfold iL; rw [e]; rfl⟩
theorem iE_2 {F : List Int} {B : List UInt8} (h : ¬F = []) (h1 : ¬(itF F B).1 = 0) : iE F B = (itF F B).1 ∧ iL F B = [] := by
  have e : iE F B = (itF F B).1 := by unfold iE; rw [if_neg h, if_pos h1]
  exact ⟨e, by unfold iL; rw [e, if_neg h1]⟩
theorem iE_3 {F : List Int} {B : List UInt8} (h : ¬F = []) (h1 : (itF F B).1 = 0) (h2 : ¬(itF F B).2.2 = []) : iE F B = 4 ∧ iL F B = [] := by
  have e : iE F B = 4 := by unfold iE; rw [if_neg h, if_neg (fun e => e h1), if_neg h2]
  exact ⟨e, by unfold iL; rw [e]; rfl⟩
theorem iE_4 {F : List Int} {B : List UInt8} (h : ¬F = []) (h1 : (itF F B).1 = 0) (h2 : (itF F B).2.2 = []) : iE F B = 0 ∧ iL F B = (itF F B).2.1 := by
  have e : iE F B = 0 := by unfold iE; rw [if_neg h, if_neg (fun e => e h1), if_pos h2]
  exact ⟨e, by unfold iL; rw [if_pos e]⟩
theorem itF_take {F : List Int} {B : List UInt8} {k : Nat} (h : k < F.length) : itF (F.take (k + 1)) B = itStep (itF (F.take k) B) (F.getD k 0) := by
  rw [← take_snoc (d := 0) h, itF_snoc]
theorem itF_stop {F : List Int} {B : List UInt8} {k : Nat} (h : ¬(itF (F.take k) B).1 = 0) : itF F B = itF (F.take k) B := by
  conv => lhs; rw [← List.take_append_drop k F]
  unfold itF at *
  rw [List.foldl_append, it_stop _ _ h]
theorem it_len : ∀ (F : List Int) (o : Int × List It × List UInt8), (F.foldl itStep o).2.1.length ≤ o.2.1.length + F.length ∧ (F.foldl itStep o).2.2.length ≤ o.2.2.length
  | [], o => ⟨by simp, by simp⟩
  | f :: F, o => by
    rw [List.foldl_cons]
    have h1 := it_len F (itStep o f)
    have h2 : (itStep o f).2.1.length ≤ o.2.1.length + 1 ∧ (itStep o f).2.2.length ≤ o.2.2.length := by
      unfold itStep
      split
      · split
        · exact ⟨by simp, by simp⟩
        · exact ⟨by simp, by simp⟩
      · exact ⟨by omega, by omega⟩
    rw [List.length_cons]
    omega
theorem itF_len (F : List Int) (B : List UInt8) : (itF F B).2.1.length ≤ F.length ∧ (itF F B).2.2.length ≤ B.length := by
  have h := it_len F (0, [], B)
  exact ⟨by have := h.1; simp only [List.length_nil, Nat.zero_add] at this; exact this, h.2⟩
theorem rd_le (n : Int) (B : List UInt8) : (fRd n B).2.1 ≤ B.length := by
  by_cases h : (fRd n B).2.2 = 0
  · exact (fR_good h).2.1
  · rw [(fR_bad h).2]; omega
theorem good_items (F : List Int) (B : List UInt8) (hF : F.length ≤ 1000) (hB : B.length ≤ 1000000) : GoodP Tryz.prog gl0 85 [rowS eZ 0 1 std fun _ => F, rowS eB 0 1 std fun _ => B] (.tup [rowS eI (0, []) 2 std fun _ => iL F B, .int .i64 (std.ti fun _ => iE F B)]) := by
  refine fn_sound' (T := seatT) (G := gM2) (X := noX) seatT_ok gM2_ok noX_ok noI_ok mixed Tryz.func85 (.none) (fun A => [rowS eZ 0 1 A fun _ => F, rowS eB 0 1 A fun _ => B]) (fun A => .tup [rowS eI (0, []) 2 A fun _ => iL F B, .int .i64 (A.ti fun _ => iE F B)]) fun A hA => ?_
  cbv
  repeat' (first | with_reducible exact True.intro | with_reducible exact dr_ok hA (by kernel_rfl) | with_reducible refine And.intro ?_ ?_ | (intro hc; cbv))
  all_goals first
    | (fail_if_success (refine Exists.intro ?_ ?_)
       subst hA
       simp [sS] at *
       first
         | (rw [(iE_1 hc).1]; done)
         | (rw [(iE_1 hc).2]; rfl)
         | trace_state)
    | skip
  have hne : ¬F = [] := by subst hA; simp [sS] at hc; exact hc
  clear hc
  refine ⟨⟨{p : Nat × List It × List UInt8 // p.1 ≤ F.length ∧ itF (F.take p.1) B = (0, p.2.1, p.2.2)}, fun b p => [(17, .int .i64 (p.1.1 : Nat)), (6, .own b), (1, rowS eB 0 1 A fun _ => p.1.2.2)], fun b p => [(b, .row 107 2 (A.tn fun _ => p.1.2.1.length) (rowF eI (0, []) A fun _ => p.1.2.1))], fun p => F.length - p.1.1, true⟩, ⟨⟨(0, [], B), by simp [itF]⟩, ?_⟩, ?_⟩
  · cbv
    subst hA
    simp [-List.getD_eq_getElem?_getD, sS]
  · rintro ⟨⟨i, L, C⟩, hi, hL⟩
    simp only at hi hL
    cbv
    repeat' (first | with_reducible exact True.intro | with_reducible exact dr_ok hA (by kernel_rfl) | with_reducible refine And.intro ?_ ?_ | (intro hc; cbv))
    all_goals first
      | (fail_if_success (refine Exists.intro ?_ ?_)
         have hlt : i < F.length := by (subst hA; simp [sS] at *; omega)
         have hst := itF_take (B := B) hlt
         rw [hL] at hst
         have hlen := itF_len (F.take i) B
         rw [hL] at hlen
         simp only [List.length_take] at hlen
         have hrl := rd_le (F.getD i 0) C
         subst hA
         simp [-List.getD_eq_getElem?_getD, sS, strOf_lit, lstOf_lit inj_eB, lstOf_lit inj_eZ, lstOf_lit inj_eBs, lstOf_lit inj_eS, isRow_lit, isB_lit, isRow_nil, lstOf_nil inj_eB, lstOf_nil inj_eZ, lstOf_nil inj_eBs, lstOf_nil inj_eS] at *
         first
           | done
           | omega
           | assumption
           | (constructor <;> omega)
           | exact Int.ofNat_lt.2 (Nat.lt_succ_of_le (rd_le _ _))
           | (rw [it_no hc] at hst
              have h1 := itF_stop (B := B) (F := F) (k := i + 1) (by rw [hst]; exact hc)
              rw [hst] at h1
              have h2 := iE_2 (B := B) hne (by rw [h1]; exact hc)
              rw [h1] at h2
              first
                | (rw [h2.1]; done)
                | (rw [h2.2]; done)
                | (rw [h2.2]; rfl))
           | trace_state)
      | (fail_if_success (refine Exists.intro ?_ ?_)
         have hie : i = F.length := by (subst hA; simp [sS] at *; omega)
         rw [hie, List.take_length] at hL
         subst hA
         simp [-List.getD_eq_getElem?_getD, sS, strOf_lit, lstOf_lit inj_eB, lstOf_lit inj_eZ, lstOf_lit inj_eBs, lstOf_lit inj_eS, isRow_lit, isB_lit, isRow_nil, lstOf_nil inj_eB, lstOf_nil inj_eZ, lstOf_nil inj_eBs, lstOf_nil inj_eS] at *
         first
           | (have hC : C = [] := by assumption
              have h2 := iE_4 (B := B) hne (by rw [hL]) (by rw [hL]; exact hC)
              rw [hL] at h2
              first
                | (rw [h2.1]; done)
                | (rw [h2.2]; done)
                | (rw [h2.2]; exact (Reps.lit _).eqr))
           | (have hC : ¬C = [] := by first | assumption | (intro e; rw [e] at hc; simp at hc)
              have h2 := iE_3 (B := B) hne (by rw [hL]) (by rw [hL]; exact hC)
              first
                | (rw [h2.1]; done)
                | (rw [h2.2]; done)
                | (rw [h2.2]; rfl))
           | trace_state)
      | (have hlt : i < F.length := by (subst hA; simp [sS] at *; omega)
         have hst := itF_take (B := B) hlt
         rw [hL] at hst
         have hz : (fRd (F.getD i 0) C).2.2 = 0 := by (subst hA; simp [-List.getD_eq_getElem?_getD, sS, strOf_lit, lstOf_lit inj_eB, lstOf_lit inj_eZ, lstOf_lit inj_eBs, lstOf_lit inj_eS, isRow_lit, isB_lit, isRow_nil, lstOf_nil inj_eB, lstOf_nil inj_eZ, lstOf_nil inj_eBs, lstOf_nil inj_eS] at *; assumption)
         rw [it_yes hz] at hst
         have hrl := rd_le (F.getD i 0) C
         obtain ⟨i', hi'⟩ : ∃ i', i' = i + 1 := ⟨_, rfl⟩
         obtain ⟨L', hL'⟩ : ∃ L', L' = L ++ [(F.getD i 0, (fRd (F.getD i 0) C).1)] := ⟨_, rfl⟩
         obtain ⟨C', hC'⟩ : ∃ C', C' = C.drop (fRd (F.getD i 0) C).2.1 := ⟨_, rfl⟩
         refine ⟨⟨(i', L', C'), by omega, by rw [hi', hst, hL', hC']⟩, ?_, show F.length - i' < F.length - i by omega⟩
         cbv
         subst hA
         simp [-List.getD_eq_getElem?_getD, sS, strOf_lit, lstOf_lit inj_eB, lstOf_lit inj_eZ, lstOf_lit inj_eBs, lstOf_lit inj_eS, isRow_lit, isB_lit, isRow_nil, lstOf_nil inj_eB, lstOf_nil inj_eZ, lstOf_nil inj_eBs, lstOf_nil inj_eS]
         first
           | exact ⟨⟨⟨by rw [hC']; simp, eqr_of (rep_drop C _) (by rw [hC']; simp) hC'.symm⟩, (w64 (by omega)).trans (by omega)⟩, by rw [hL']; simp, snoc_row rfl (cell_eI _ _) hL'.symm (by rw [hL']; simp)⟩
           | trace_state)
      | trace_state
noncomputable def c_items : Ct := fun A args => match args with
  | [.slc n 1 f, .slc m 1 g] => some (some (A.tp fun _ => isRow eZ 0 1 n f ∧ isRow eB 0 1 m g ∧ n ≤ 1000 ∧ m ≤ 1000000), .tup [rowS eI (0, []) 2 A fun _ => iL (lstOf eZ 0 1 n f) (lstOf eB 0 1 m g), .int .i64 (A.ti fun _ => iE (lstOf eZ 0 1 n f) (lstOf eB 0 1 m g))])
  | _ => none
noncomputable def gM3 : Ar → Pu := addC 85 c_items (gM2)
theorem gM3_ok : PuOk Tryz.prog gl0 (gM3 std) := by
  refine addC_ok (gM2_ok) ⟨_, Tryz.func85, rfl, by decide⟩ ?_
  · intro args p r h hp
    unfold c_items at h
    split at h <;> cases h
    exact good_sv (good_items _ _ (by rw [lstOf_length hp.1]; exact hp.2.2.1) (by rw [lstOf_length hp.2.1]; exact hp.2.2.2)) ⟨hp.1.sv, hp.2.1.sv, trivial⟩
theorem bfields_len (h l : Nat) : (bfields h l).length ≤ 129 := bfieldsTo_len h l 129
theorem brN_le (L : List UInt8) : 0 ≤ brN L ∧ brN L ≤ 16 ∧ (brE L = 0 → brN L ≤ L.length) := by
  refine ⟨?_, ?_, fun h => (read_bytes L h).2.2.2.1⟩
  · unfold brN; split
    · split <;> omega
    · omega
  · unfold brN; split
    · split <;> omega
    · omega
theorem cut4 (B : List UInt8) : List.drop (IntKind.i64.wrap (4 + brN (List.drop 4 B))).toNat B = (mC B).drop (brN (mC B)).toNat := by
  have h := brN_le (List.drop 4 B)
  rw [w64 (by omega)]
  unfold mC
  rw [List.drop_drop]
  congr 1
  omega
theorem mre_it {B : List UInt8} (h : ¬B.length < 4) (h1 : mT (B.take 4) = true) (h2 : brE (mC B) = 0) : mRe B = iE (mFs B) ((mC B).drop (brN (mC B)).toNat) ∧ mRL B = iL (mFs B) ((mC B).drop (brN (mC B)).toNat) := by
  have e : mRe B = iE (mFs B) ((mC B).drop (brN (mC B)).toNat) := by
    unfold iE
    by_cases h3 : mFs B = []
    · rw [mRe_4 h h1 h2 h3, if_pos h3]
    · rw [if_neg h3]
      by_cases h4 : (mIt B).1 = 0
      · rw [mRe_6 h h1 h2 h3 h4]
        have h5 : (itF (mFs B) ((mC B).drop (brN (mC B)).toNat)).1 = 0 := h4
        rw [if_neg (show ¬¬(itF (mFs B) ((mC B).drop (brN (mC B)).toNat)).1 = 0 from fun e => e h5)]
        rfl
      · rw [mRe_5 h h1 h2 h3 h4]
        have h5 : ¬(itF (mFs B) ((mC B).drop (brN (mC B)).toNat)).1 = 0 := h4
        rw [if_pos h5]
        rfl
  refine ⟨e, ?_⟩
  unfold mRL iL
  rw [← e]
  rfl
theorem br_r64 {L : List UInt8} (h : brE L = 0) : r64 (br1 L : Nat) ∧ r64 (br2 L : Nat) := by
  obtain ⟨_, _, _, _, h5, h6⟩ := read_bytes L h
  exact ⟨r64_of h5, r64_of h6⟩
theorem good_mRead (B : List UInt8) (hB : B.length ≤ 1000000) : GoodP Tryz.prog gl0 41 [rowS eB 0 1 std fun _ => B] (.tup [.agg [.str (std.ts fun _ => mRT B), rowS eI (0, []) 2 std fun _ => mRL B], .int .i64 (std.ti fun _ => mRe B)]) := by
  refine fn_sound' (T := seatT) (G := gM3) (X := noX) seatT_ok gM3_ok noX_ok noI_ok mixed Tryz.func41 (.none) (fun A => [rowS eB 0 1 A fun _ => B]) (fun A => .tup [.agg [.str (A.ts fun _ => mRT B), rowS eI (0, []) 2 A fun _ => mRL B], .int .i64 (A.ti fun _ => mRe B)]) fun A hA => ?_
  cbv
  repeat' (first | with_reducible exact True.intro | with_reducible exact dr_ok hA (by kernel_rfl) | with_reducible refine And.intro ?_ ?_ | (intro hc; cbv))
  all_goals (have hN := brN_le (List.drop 4 B))
  all_goals (have hcut := cut4 B)
  all_goals (have hw : IntKind.i64.wrap (4 + brN (List.drop 4 B)) = 4 + brN (List.drop 4 B) := w64 (by omega))
  all_goals (have hfl := bfields_len (br1 (List.drop 4 B)) (br2 (List.drop 4 B)))
  all_goals (subst hA; simp [-List.getD_eq_getElem?_getD, sS, strOf_lit, lstOf_lit inj_eB, lstOf_lit inj_eZ, lstOf_lit inj_eBs, lstOf_lit inj_eS, isRow_lit, isB_lit, isRow_nil, lstOf_nil inj_eB, lstOf_nil inj_eZ, lstOf_nil inj_eBs, lstOf_nil inj_eS, lst_drop, row_drop] at *)
  all_goals first
    | omega
    | exact isB_any B 4
    | (have h4 : B.length < 4 := by omega
       have h := mRe_1 h4
       have hb := mR_bad (B := B) (by rw [h]; decide)
       first
         | (rw [h]; done)
         | (rw [hb.1]; done)
         | (rw [hb.2]; done)
         | (rw [hb.2]; rfl))
    | (have h4 : ¬B.length < 4 := by omega
       have hT : strOfS 4 (rowF eB 0 std fun _ => B) = B.take 4 := cutS B (by omega)
       try simp only [hT] at *
       first
         | (have h1 : mT (B.take 4) = false := by assumption
            have h := mRe_2 h4 h1
            have hb := mR_bad (B := B) (by rw [h]; decide)
            first
              | (rw [h]; done)
              | (rw [hb.1]; done)
              | (rw [hb.2]; done)
              | (rw [hb.2]; rfl))
         | (have h1 : mT (B.take 4) = true := by assumption
            have h2 : ¬brE (mC B) = 0 := by assumption
            have h := mRe_3 h4 h1 h2
            have hb := mR_bad (B := B) (by rw [h]; exact h2)
            first
              | (rw [h]; done)
              | (rw [h]; rfl)
              | (rw [hb.1]; done)
              | (rw [hb.2]; done)
              | (rw [hb.2]; rfl))
         | (have h1 : mT (B.take 4) = true := by assumption
            have h2 : brE (mC B) = 0 := by assumption
            have h := mre_it h4 h1 h2
            have h3 := hN.2.2 h2
            first
              | exact br_r64 h2
              | (rw [hw]; omega)
              | (rw [hw]; constructor <;> omega)
              | (rw [hw]; rw [List.length_drop] at h3; constructor <;> omega)
              | (simp only [hcut] at *
                 first
                   | (have hb := mR_bad (B := B) (by rw [h.1]; assumption)
                      first
                        | (rw [hb.1]; done)
                        | (rw [hb.2]; done)
                        | (rw [hb.2]; rfl)
                        | (rw [h.1]; rfl))
                   | (have h0 : mRe B = 0 := by (rw [h.1]; assumption)
                      first
                        | (rw [h0]; done)
                        | (unfold mRT; rw [if_pos h0]; done)
                        | (rw [h.2]; done)
                        | (rw [h.2]; rfl)
                        | (rw [h.2]; exact (Reps.lit _).eqr))))
         | trace_state)
    | trace_state
noncomputable def c_mRead : Ct := fun A args => match args with
  | [.slc n 1 f] => some (some (A.tp fun _ => isRow eB 0 1 n f ∧ n ≤ 1000000), .tup [.agg [.str (A.ts fun _ => mRT (lstOf eB 0 1 n f)), rowS eI (0, []) 2 A fun _ => mRL (lstOf eB 0 1 n f)], .int .i64 (A.ti fun _ => mRe (lstOf eB 0 1 n f))])
  | _ => none
noncomputable def gM4 : Ar → Pu := addC 41 c_mRead (gM3)
theorem gM4_ok : PuOk Tryz.prog gl0 (gM4 std) := by
  refine addC_ok (gM3_ok) ⟨_, Tryz.func41, rfl, by decide⟩ ?_
  · intro args p r h hp
    unfold c_mRead at h
    split at h <;> cases h
    exact good_sv (good_mRead _ (by rw [lstOf_length hp.1]; exact hp.2)) ⟨hp.1.sv, trivial⟩
end Go.Vd

set_option linter.unusedVariables false
namespace Go.Vd
def svn1 : SV → SV → Prop
  | .slc n k f, t => (∃ g, t = .slc n k g ∧ ∀ i j, i < n → j < k → Ceq (f i j) (g i j)) ∨ (n = 0 ∧ ∃ k' g, t = .slc 0 k' g)
  | .nils, t => ∃ k g, t = .slc 0 k g
  | s, t => s = t
theorem svn1_rel {w : World} {ρ : Nat → Value} {rw N : Nat → Prop} {v : Value} {s t : SV} (h : Rel w ρ rw N v s) (e : svn1 s t) : Rel w ρ rw N v t := by
  cases s with
  | slc n k f =>
    rcases e with e | ⟨rfl, k', g, rfl⟩
    · exact sv1_rel h e
    · cases h with
      | slc a _ c _ _ g2 hn hc ha hr => exact .slc a 0 c k' g (fun _ _ => undef) hn (fun i j hi => absurd hi (by omega)) (fun h => absurd h (by omega)) (fun i j hi => absurd hi (by omega))
  | nils =>
    obtain ⟨k, g, rfl⟩ := e
    cases h with
    | nils => exact .slc none 0 0 k g (fun _ _ => undef) (Nat.le_refl _) (fun i j hi => absurd hi (by omega)) (fun h => absurd h (by omega)) (fun i j hi => absurd hi (by omega))
  | _ => cases e; exact h
def svn2 : SV → SV → Prop
  | .agg l, t => ∃ m, t = .agg m ∧ All2 svn1 l m
  | s, t => svn1 s t
theorem svn2_rel {w : World} {ρ : Nat → Value} {rw N : Nat → Prop} {v : Value} {s t : SV} (h : Rel w ρ rw N v s) (e : svn2 s t) : Rel w ρ rw N v t := by
  cases s with
  | agg l =>
    obtain ⟨m, rfl, he⟩ := e
    generalize hs : SV.agg l = s at h
    cases h with
    | agg cs l' hl h1 hh =>
      cases hs
      have hlen := he.length
      refine .agg _ _ (by omega) h1 fun i v t hv ht => ?_
      have hi : i < l.length := by have := (List.getElem?_eq_some_iff.1 ht).1; omega
      exact svn1_rel (hh i v _ hv (List.getElem?_eq_getElem hi)) (he.get i _ t (List.getElem?_eq_getElem hi) ht)
    | _ => cases hs
  | _ => exact svn1_rel h e
theorem good_svn {P : Program} {gl : Nat → SV} {f : FuncId} {args args' : List SV} {r : SV} (h : GoodP P gl f args' r) (he : All2 svn2 args args') : GoodP P gl f args r := by
  intro w ρ rw N vs hfr hrw hg hargs
  refine h w ρ rw N vs hfr hrw hg ?_
  have key : ∀ {vs : List Value} {l m : List SV}, All2 (Rel w ρ rw N) vs l → All2 svn2 l m → All2 (Rel w ρ rw N) vs m := by
    intro vs
    induction vs with
    | nil => intro l m h1 h2; cases l with
      | nil => cases m with
        | nil => trivial
        | cons => exact h2.elim
      | cons => exact h1.elim
    | cons v vs ih => intro l m h1 h2; cases l with
      | nil => exact h1.elim
      | cons s l => cases m with
        | nil => exact h2.elim
        | cons t m => exact ⟨svn2_rel h1.1 h2.1, ih h1.2 h2.2⟩
  exact key hargs he
end Go.Vd

set_option linter.unusedVariables false
set_option linter.unusedSimpArgs false
set_option maxRecDepth 100000
set_option maxHeartbeats 8000000
namespace Go.Vd
open Go.Proofs
/-- Not too much for a look. -/
def mSh (T : List UInt8) (L : List It) : Bool := decide ((T.length : Int) ≤ 300) && (decide ((L.length : Int) ≤ 200) && L.all fun x => decide (x.2.length ≤ 1200))
theorem mSh_iff {T : List UInt8} {L : List It} : mSh T L = true ↔ T.length ≤ 300 ∧ L.length ≤ 200 ∧ ∀ x ∈ L, x.2.length ≤ 1200 := by
  simp only [mSh, Bool.and_eq_true, decide_eq_true_eq, List.all_eq_true]
  constructor
  · rintro ⟨h1, h2, h3⟩; exact ⟨by omega, by omega, h3⟩
  · rintro ⟨h1, h2, h3⟩; exact ⟨by omega, by omega, h3⟩
theorem mSh_getD {T : List UInt8} {L : List It} (h : mSh T L = true) (i : Nat) : (L.getD i (0, [])).2.length ≤ 1200 := by
  rw [List.getD_eq_getElem?_getD]
  rcases Nat.lt_or_ge i L.length with hi | hi
  · rw [List.getElem?_eq_getElem hi]; exact (mSh_iff.1 h).2.2 _ (List.getElem_mem hi)
  · rw [List.getElem?_eq_none hi]; simp
theorem mSh_no {T : List UInt8} {L : List It} {i : Nat} (hi : i < L.length) (h : 1200 < (L.getD i (0, [])).2.length) : mSh T L = false := by
  rw [Bool.eq_false_iff]
  intro e
  have := mSh_getD e i
  omega
theorem mSh_yes {T : List UInt8} {L : List It} {i : Nat} (hi : L.length ≤ i ∨ 200 ≤ i) (h : ∀ j, j < i → (L.getD j (0, [])).2.length ≤ 1200) : mSh T L = (decide ((T.length : Int) ≤ 300) && decide ((L.length : Int) ≤ 200)) := by
  unfold mSh
  by_cases h2 : (L.length : Int) ≤ 200
  · have : L.all (fun x => decide (x.2.length ≤ 1200)) = true := by
      rw [List.all_eq_true]
      intro x hx
      obtain ⟨j, hj, rfl⟩ := List.mem_iff_getElem.1 hx
      have := h j (by omega)
      rw [List.getD_eq_getElem?_getD, List.getElem?_eq_getElem hj] at this
      exact decide_eq_true this
    rw [this, Bool.and_true]
  · rw [decide_eq_false h2]; simp
theorem pair_eq {L M : List It} {i : Nat} : L.getD i (0, []) = M.getD i (0, []) ↔ (L.getD i (0, [])).1 = (M.getD i (0, [])).1 ∧ (L.getD i (0, [])).2 = (M.getD i (0, [])).2 := Prod.ext_iff
noncomputable def gM5a : Ar → Pu := gM4
theorem gM5a_ok : PuOk Tryz.prog gl0 (gM5a std) := by
  refine gM4_ok
noncomputable def c_rSame : Ct := fun A args => match args with
  | [.agg [.str T, .slc n 2 f], .agg [.str U, .slc m 2 g]] => some (some (A.tp fun _ => isRow eI (0, []) 2 n f ∧ isRow eI (0, []) 2 m g ∧ n ≤ 1000000), .bool (A.tb fun _ => decide (T = U ∧ lstOf eI (0, []) 2 n f = lstOf eI (0, []) 2 m g)))
  | [.agg [.str T, .slc n 2 f], .agg [.str U, .slc m 1 g]] => some (some (A.tp fun _ => isRow eI (0, []) 2 n f ∧ m = 0 ∧ n ≤ 1000000), .bool (A.tb fun _ => decide (T = U ∧ lstOf eI (0, []) 2 n f = [])))
  | _ => none
noncomputable def gM5 : Ar → Pu := gM5a
theorem gM5_ok : PuOk Tryz.prog gl0 (gM5 std) := gM5a_ok
theorem app1_reps (L : List UInt8) {z : Int} {x : UInt8} (hz : z = x.toNat) {g : Nat → Nat → SV} : Reps eB 0 1 (0 + L.length + 1) (catS (0 + L.length) (catS 0 g (rowF eB 0 std fun _ => L)) (lstS [[SV.int IntKind.u8 z]])) (L ++ [x]) := by
  have h1 : Reps eB 0 1 (0 + L.length) (catS 0 g (rowF eB 0 std fun _ => L)) L := by
    have := (Reps.nil (enc := eB) (d := 0) (k := 1) (f := g)).cat (Reps.lit L)
    simpa using this
  exact h1.cat (Reps.one (cell_eB hz))
def mT0 : List UInt8 := [48, 52, 51, 48]
def mL0 : List It := [(11, [48, 48, 48, 48, 48, 49]), (39, [48, 48])]
def mB0 : List UInt8 := [48, 52, 51, 48, 0, 32, 0, 0, 2, 0, 0, 0, 48, 48, 48, 48, 48, 49, 48, 48]
theorem mq0 : Reps eI (0, []) 2 2 (lstS [[SV.int IntKind.i64 11, SV.str [48, 48, 48, 48, 48, 49]], [SV.int IntKind.i64 39, SV.str [48, 48]]]) mL0 :=
  Reps.lst (l := [[SV.int .i64 11, SV.str [48, 48, 48, 48, 48, 49]], [SV.int .i64 39, SV.str [48, 48]]]) ⟨cell_eI _ _, cell_eI _ _, trivial⟩
theorem ml0 : lstOf eI (0, []) 2 2 (lstS [[SV.int IntKind.i64 11, SV.str [48, 48, 48, 48, 48, 49]], [SV.int IntKind.i64 39, SV.str [48, 48]]]) = mL0 := lstOf_eq inj_eI mq0
theorem mw0 : mWx [48, 52, 51, 48] mL0 = mB0 ∧ mWe [48, 52, 51, 48] mL0 = 0 ∧ mR [48, 52, 51, 48] mL0 = true := by decide +kernel
theorem mr0 : mRe mB0 = 0 ∧ mRT mB0 = [48, 52, 51, 48] ∧ mRL mB0 = mL0 ∧ mRe (mB0 ++ [48]) = 4 := by decide +kernel
theorem mg0 : mG mL0 39 = [48, 48] ∧ mH mL0 39 = true := by decide +kernel
theorem ma0 : lstOf eB 0 1 (0 + mB0.length + 1) (catS (0 + mB0.length) (catS 0 (fun _ _ => SV.any) (rowF eB 0 std fun _ => mB0)) (lstS [[SV.int IntKind.u8 48]])) = mB0 ++ [48] := lstOf_eq inj_eB (app1_reps mB0 (x := 48) rfl)
theorem ma1 : isRow eB 0 1 (0 + mB0.length + 1) (catS (0 + mB0.length) (catS 0 (fun _ _ => SV.any) (rowF eB 0 std fun _ => mB0)) (lstS [[SV.int IntKind.u8 48]])) := ⟨_, app1_reps mB0 (x := 48) rfl⟩
theorem ms0 : ∀ i, (mL0.getD i (0, [])).2.length ≤ 1000000 := fun i => Nat.le_trans (mSh_getD (T := mT0) (L := mL0) (by decide) i) (by decide)
noncomputable def gM6 : Ar → Pu := gM5
theorem gM6_ok : PuOk Tryz.prog gl0 (gM6 std) := by
  refine gM5_ok
end Go.Vd

set_option linter.unusedVariables false
set_option linter.unusedSimpArgs false
set_option maxRecDepth 100000
set_option maxHeartbeats 8000000
namespace Go.Vd
open Go.Proofs
theorem mW_len {T : List UInt8} {L : List It} (h : mR T L = true) : (mW T L).length ≤ 20 + L.length * 1002 := by
  obtain ⟨h1, h2, h3, h4⟩ := mR_iff.1 h
  have hT := mT_len h1
  obtain ⟨b1, b2, b3, b4, b5, b6⟩ := bof_ups h4 (fs_bf h3)
  have hb := bb_len b2
  have := body_len h3
  unfold mW mBits
  rw [List.length_append, List.length_append, hb]
  split <;> omega
theorem mRL_len (B : List UInt8) : (mRL B).length ≤ 129 := by
  unfold mRL
  split
  · exact Nat.le_trans (itF_len _ _).1 (bfields_len _ _)
  · simp
theorem rr_len {n : Int} {s : List UInt8} (h : rr n s = true) : s.length ≤ 999 := by
  have h1 := rr_ok h
  have h2 := dOk_b h1.1
  omega
theorem val_len {T : List UInt8} {L : List It} (h : mR T L = true) (i : Nat) : (L.getD i (0, [])).2.length ≤ 999 := by
  rcases Nat.lt_or_ge i L.length with hi | hi
  · exact rr_len (rr_at (mR_iff.1 h).2.2.1 hi)
  · rw [List.getD_eq_getElem?_getD, List.getElem?_eq_none hi]; simp
theorem lst_cut (L : List UInt8) {k : Nat} (h : k ≤ L.length) : lstOf eB 0 1 k (rowF eB 0 std fun _ => L) = L.take k := lstOf_eq inj_eB (.cut L k h)
theorem row_cut (L : List UInt8) {k : Nat} (h : k ≤ L.length) : isRow eB 0 1 k (rowF eB 0 std fun _ => L) := ⟨_, .cut L k h⟩
theorem app2_reps (L : List UInt8) {z : Int} {x : UInt8} (hz : z = x.toNat) {g : Nat → Nat → SV} : Reps eB 0 1 (L.length + 1) (catS L.length (catS 0 g (rowF eB 0 std fun _ => L)) (lstS [[SV.int IntKind.u8 z]])) (L ++ [x]) := by
  have := app1_reps L hz (g := g)
  simpa using this
theorem mod_cut {c : Int} (hc : 0 ≤ c ∧ c < 65536) {n : Nat} (hn : 0 < n) : ∃ k : Nat, k < n ∧ (IntKind.i64.wrap c).tmod (n : Int) = (k : Int) := by
  rw [w64 (by omega)]
  have t1 := Int.tmod_nonneg (n : Int) hc.1
  have t2 := Int.tmod_lt_of_pos c (show (0 : Int) < n by omega)
  exact ⟨(c.tmod n).toNat, by omega, by omega⟩
/-- What comes of writing. -/
theorem mw_facts {T : List UInt8} {L : List It} (h : mWe T L = 0) : mR T L = true ∧ mRe (mWx T L) = 0 ∧ mRT (mWx T L) = T ∧ mRL (mWx T L) = L ∧ (∀ k, k < (mWx T L).length → mRe ((mWx T L).take k) = 2) ∧ (∀ x, mRe (mWx T L ++ [x]) = 4) ∧ 12 ≤ (mWx T L).length ∧ (mWx T L).length ≤ 20 + L.length * 1002 := by
  have hr : mR T L = true := by
    cases e : mR T L
    · rw [(mw_no e).2] at h; cases h
    · rfl
  have hw := mw_yes hr
  rw [hw.1]
  have hb := mR_back hr
  exact ⟨hr, hb.1, hb.2.1, hb.2.2, fun k hk => mR_cut hr hk, fun x => mR_more hr x, mW_ne hr, mW_len hr⟩
theorem mw_two {T U : List UInt8} {L M : List It} (h : mWe T L = 0) (h' : mWe U M = 0) : mWx T L = mWx U M ↔ T = U ∧ L = M := by
  have a := (mw_facts h).1
  have b := (mw_facts h').1
  rw [(mw_yes a).1, (mw_yes b).1]
  exact mW_inj a b
theorem rd_facts {B : List UInt8} (h : mRe B = 0) : mR (mRT B) (mRL B) = true ∧ mWe (mRT B) (mRL B) = 0 ∧ mWx (mRT B) (mRL B) = B := by
  have := mR_good h
  exact ⟨this.1, (mw_yes this.1).2, (mw_yes this.1).1.trans this.2⟩
end Go.Vd

set_option linter.unusedVariables false
set_option linter.unusedSimpArgs false
set_option maxRecDepth 100000
set_option maxHeartbeats 8000000
namespace Go.Vd
open Go.Proofs
noncomputable def c_oTells : Ct := fun A args => match args with
  | [.int .i64 k] => some (none, .bool (A.tb fun _ => decide (k = 5) || decide (k = 6)))
  | _ => none
noncomputable def c_oAsks : Ct := fun A args => match args with
  | [.int .i64 k] => some (none, .bool (A.tb fun _ => dAsks k))
  | _ => none
noncomputable def c_oRight : Ct := fun A args => match args with
  | [.agg [.int .i64 k, .str p, .int .u64 a, .int .u32 s, .str r, .str c]] => some (some (A.tp fun _ => p.length ≤ 100000 ∧ r.length ≤ 1000000 ∧ c.length ≤ 1000000), .bool (A.tb fun _ => dR k a s p r c))
  | _ => none
noncomputable def gO0 : Ar → Pu := addC 91 c_oTells (addC 60 c_oAsks (addC 21 c_oRight (gM4)))
theorem gO0_ok : PuOk Tryz.prog gl0 (gO0 std) := by
  refine addC_ok (addC_ok (addC_ok (gM4_ok) ⟨_, Tryz.func21, rfl, by decide⟩ ?_) ⟨_, Tryz.func60, rfl, by decide⟩ ?_) ⟨_, Tryz.func91, rfl, by decide⟩ ?_
  · intro args p r h hp
    unfold c_oRight at h
    split at h <;> cases h
    exact good_dRight _ _ _ _ _ _ hp.1 hp.2.1 hp.2.2
  · intro args p r h hp
    unfold c_oAsks at h
    split at h <;> cases h
    exact good_dAsks _
  · intro args p r h hp
    unfold c_oTells at h
    split at h <;> cases h
    exact good_dTells _
theorem kd_at {T : List UInt8} {i : Nat} (hi : i < 7) (h : typesL.getD i [] = T) : kdOf T = (i : Int) + 1 := by
  subst h
  have h : ∀ i : Fin 7, kdOf (typesL.getD i.val []) = (i.val : Int) + 1 := by decide
  exact h ⟨i, hi⟩
theorem kd_none {T : List UInt8} (h : ∀ j, j < 7 → ¬typesL.getD j [] = T) : kdOf T = 0 := by
  unfold kdOf
  rw [if_neg (fun e => h 0 (by omega) e.symm), if_neg (fun e => h 1 (by omega) e.symm), if_neg (fun e => h 2 (by omega) e.symm), if_neg (fun e => h 3 (by omega) e.symm), if_neg (fun e => h 4 (by omega) e.symm), if_neg (fun e => h 5 (by omega) e.symm), if_neg (fun e => h 6 (by omega) e.symm)]
theorem ty_at {i : Nat} (hi : i < 7) : getAt [SV.str [48, 49, 48, 48], SV.str [48, 49, 49, 48], SV.str [48, 52, 48, 48], SV.str [48, 52, 49, 48], SV.str [48, 52, 50, 48], SV.str [48, 52, 50, 49], SV.str [48, 52, 51, 48]] i = .str (typesL.getD i []) := by
  rcases (show i = 0 ∨ i = 1 ∨ i = 2 ∨ i = 3 ∨ i = 4 ∨ i = 5 ∨ i = 6 by omega) with rfl | rfl | rfl | rfl | rfl | rfl | rfl <;> rfl
theorem good_kdOf (T : List UInt8) : GoodP Tryz.prog gl0 87 [.str T] (.int .i64 (std.ti fun _ => kdOf T)) := by
  refine fn_sound' (T := seatT) (G := noC) (X := noX) seatT_ok noC_ok noX_ok noI_ok mixed Tryz.func87 (.one) (fun A => [.str T]) (fun A => .int .i64 (A.ti fun _ => kdOf T)) fun A hA => ?_
  cbv
  repeat' (first | with_reducible exact True.intro | with_reducible exact dr_ok hA (by kernel_rfl) | with_reducible refine And.intro ?_ ?_ | (intro hc; cbv))
  refine ⟨⟨{i : Nat // i ≤ 7 ∧ ∀ j, j < i → ¬typesL.getD j [] = T}, fun b i => [(6, .int .i64 (i.1 : Nat))], fun b i => [], fun i => 7 - i.1, true⟩, ⟨⟨0, by omega, fun j hj => absurd hj (by omega)⟩, ?_⟩, ?_⟩
  · cbv
    subst hA
    simp [-List.getD_eq_getElem?_getD, sS]
  · rintro ⟨i, hi, h0⟩
    cbv
    repeat' (first | with_reducible exact True.intro | with_reducible exact dr_ok hA (by kernel_rfl) | with_reducible refine And.intro ?_ ?_ | (intro hc; cbv))
    all_goals first
      | (fail_if_success (refine Exists.intro ?_ ?_)
         have hlt : i < 7 := by (clear h0; subst hA; simp [-List.getD_eq_getElem?_getD, sS] at *; omega)
         subst hA
         simp [-List.getD_eq_getElem?_getD, sS, ty_at hlt] at *
         first
           | done
           | omega
           | (rw [kd_at hlt hc, w64 (by omega)]; omega)
           | trace_state)
      | (fail_if_success (refine Exists.intro ?_ ?_)
         have hie : i = 7 := by (clear h0; subst hA; simp [-List.getD_eq_getElem?_getD, sS] at *; omega)
         have := kd_none (T := T) (fun j hj => h0 j (by omega))
         subst hA
         simp only [sS, this])
      | (have hlt : i < 7 := by (clear h0; subst hA; simp [-List.getD_eq_getElem?_getD, sS] at *; omega)
         have hne : ¬typesL.getD i [] = T := by (clear h0; subst hA; simp [-List.getD_eq_getElem?_getD, sS, ty_at hlt] at *; exact hc)
         refine ⟨⟨i + 1, by omega, fun j hj => ?_⟩, ?_, show 7 - (i + 1) < 7 - i by omega⟩
         · by_cases e : j = i
           · subst e; exact hne
           · exact h0 j (by omega)
         cbv
         subst hA
         simp [sS]
         exact (w64 (by omega)).trans (by omega))
      | trace_state
theorem fo_1 {k : Int} (h : k = 5 ∨ k = 6) : fOf k = [2, 4, 11, 37, 90] := if_pos h
theorem fo_2 {k : Int} (h : ¬(k = 5 ∨ k = 6)) (h1 : dAsks k = true) : fOf k = [2, 4, 11, 37] := by unfold fOf; rw [if_neg h, if_pos h1]
theorem fo_3 {k : Int} (h : ¬(k = 5 ∨ k = 6)) (h1 : dAsks k = false) : fOf k = [11, 37, 39] := by unfold fOf; rw [if_neg h, if_neg (by rw [h1]; simp)]
theorem z_rep (L : List Int) : Reps eZ 0 1 L.length (lstS (L.map fun z => [SV.int .i64 z])) L := by
  have h := Reps.lst (enc := eZ) (d := 0) (k := 1) (all2_map L)
  rw [List.length_map] at h
  exact h
theorem good_fieldsOf (k : Int) : GoodP Tryz.prog gl0 53 [.int .i64 k] (rowS eZ 0 1 std fun _ => fOf k) := by
  refine fn_sound' (T := seatT) (G := gO0) (X := noX) seatT_ok gO0_ok noX_ok noI_ok mixed Tryz.func53 (.none) (fun A => [.int .i64 k]) (fun A => rowS eZ 0 1 A fun _ => fOf k) fun A hA => ?_
  cbv
  repeat' (first | with_reducible exact True.intro | with_reducible exact dr_ok hA (by kernel_rfl) | with_reducible refine And.intro ?_ ?_ | (intro hc; cbv))
  all_goals (subst hA; simp [sS] at *)
  all_goals first
    | (rw [fo_1 (by omega)]; rfl)
    | (rw [fo_1 (by omega)]; exact (z_rep [2, 4, 11, 37, 90]).eqr)
    | (rw [fo_2 (by omega) (by assumption)]; rfl)
    | (rw [fo_2 (by omega) (by assumption)]; exact (z_rep [2, 4, 11, 37]).eqr)
    | (rw [fo_3 (by omega) (by assumption)]; rfl)
    | (rw [fo_3 (by omega) (by assumption)]; exact (z_rep [11, 37, 39]).eqr)
    | trace_state
theorem good_digitsOf (v n : Int) (hv : 0 ≤ v ∧ v < 18446744073709551616) (hn : -9223372036854775808 ≤ n ∧ n < 9223372036854775808) : GoodP Tryz.prog gl0 104 [.int .u64 v, .int .i64 n] (.str (std.ts fun _ => puS v n)) := by
  refine fn_sound' (T := seatT) (G := gO0) (X := noX) seatT_ok gO0_ok noX_ok noI_ok mixed Tryz.func104 (.one) (fun A => [.int .u64 v, .int .i64 n]) (fun A => .str (A.ts fun _ => puS v n)) fun A hA => ?_
  cbv
  repeat' (first | with_reducible exact True.intro | with_reducible exact dr_ok hA (by kernel_rfl) | with_reducible refine And.intro ?_ ?_ | (intro hc; cbv))
  all_goals (subst hA; simp [sS] at *)
  all_goals first
    | omega
    | trace_state
theorem rep32 : Lib.repeatL [48] 32 = List.replicate 32 48 := repl_eq 32
theorem good_first (x : List UInt8) (hx : x.length ≤ 1000) : GoodP Tryz.prog gl0 105 [.str x] (.str (std.ts fun _ => frst x)) := by
  refine fn_sound' (T := seatT) (G := gO0) (X := noX) seatT_ok gO0_ok noX_ok noI_ok mixed Tryz.func105 (.one) (fun A => [.str x]) (fun A => .str (A.ts fun _ => frst x)) fun A hA => ?_
  cbv
  repeat' (first | with_reducible exact True.intro | with_reducible exact dr_ok hA (by kernel_rfl) | with_reducible refine And.intro ?_ ?_ | (intro hc; cbv))
  all_goals (subst hA; simp [sS, rep32] at *)
  all_goals first
    | omega
    | (simp [frst]; done)
    | trace_state
noncomputable def c_fieldsOf : Ct := fun A args => match args with
  | [.int .i64 k] => some (none, rowS eZ 0 1 A fun _ => fOf k)
  | _ => none
noncomputable def c_kdOf : Ct := fun A args => match args with
  | [.str T] => some (none, .int .i64 (A.ti fun _ => kdOf T))
  | _ => none
noncomputable def c_digitsOf : Ct := fun A args => match args with
  | [.int .u64 v, .int .i64 n] => some (some (A.tp fun _ => (0 ≤ v ∧ v < 18446744073709551616) ∧ (-9223372036854775808 ≤ n ∧ n < 9223372036854775808)), .str (A.ts fun _ => puS v n))
  | _ => none
noncomputable def c_first : Ct := fun A args => match args with
  | [.str x] => some (some (A.tp fun _ => x.length ≤ 1000), .str (A.ts fun _ => frst x))
  | _ => none
noncomputable def gO1 : Ar → Pu := addC 53 c_fieldsOf (addC 87 c_kdOf (addC 104 c_digitsOf (addC 105 c_first (gO0))))
theorem gO1_ok : PuOk Tryz.prog gl0 (gO1 std) := by
  refine addC_ok (addC_ok (addC_ok (addC_ok (gO0_ok) ⟨_, Tryz.func105, rfl, by decide⟩ ?_) ⟨_, Tryz.func104, rfl, by decide⟩ ?_) ⟨_, Tryz.func87, rfl, by decide⟩ ?_) ⟨_, Tryz.func53, rfl, by decide⟩ ?_
  · intro args p r h hp
    unfold c_first at h
    split at h <;> cases h
    exact good_first _ hp
  · intro args p r h hp
    unfold c_digitsOf at h
    split at h <;> cases h
    exact good_digitsOf _ _ hp.1 hp.2
  · intro args p r h hp
    unfold c_kdOf at h
    split at h <;> cases h
    exact good_kdOf _
  · intro args p r h hp
    unfold c_fieldsOf at h
    split at h <;> cases h
    exact good_fieldsOf _
def vOf (a s : Int) (p r c : List UInt8) (f : Int) : List UInt8 := if f = 2 then p else if f = 4 then puS a 12 else if f = 11 then puS s 6 else if f = 37 then r else if f = 39 then c else frst (puS s 6)
theorem dIs_map (k a s : Int) (p r c : List UInt8) : dIs k a s p r c = (fOf k).map fun f => (f, vOf a s p r c f) := by
  unfold dIs fOf
  split
  · rfl
  · split <;> rfl
theorem u64_32 {s : Int} (hs : 0 ≤ s ∧ s < 4294967296) : IntKind.u64.wrap s = s := wU64' (by omega)
theorem good_valueOf (k a s f : Int) (p r c : List UInt8) (ha : 0 ≤ a ∧ a < 18446744073709551616) (hs : 0 ≤ s ∧ s < 4294967296) : GoodP Tryz.prog gl0 54 [.agg [.int .i64 k, .str p, .int .u64 a, .int .u32 s, .str r, .str c], .int .i64 f] (.str (std.ts fun _ => vOf a s p r c f)) := by
  refine fn_sound' (T := seatT) (G := gO1) (X := noX) seatT_ok gO1_ok noX_ok noI_ok mixed Tryz.func54 (.one) (fun A => [.agg [.int .i64 k, .str p, .int .u64 a, .int .u32 s, .str r, .str c], .int .i64 f]) (fun A => .str (A.ts fun _ => vOf a s p r c f)) fun A hA => ?_
  cbv
  repeat' (first | with_reducible exact True.intro | with_reducible exact dr_ok hA (by kernel_rfl) | with_reducible refine And.intro ?_ ?_ | (intro hc; cbv))
  all_goals (have h6 := puS_len s 6)
  all_goals (subst hA; simp [sS, u64_32 hs] at *)
  all_goals first
    | omega
    | (unfold vOf; simp [*]; done)
    | trace_state
noncomputable def c_valueOf : Ct := fun A args => match args with
  | [.agg [.int .i64 k, .str p, .int .u64 a, .int .u32 s, .str r, .str c], .int .i64 f] => some (some (A.tp fun _ => (0 ≤ a ∧ a < 18446744073709551616) ∧ (0 ≤ s ∧ s < 4294967296)), .str (A.ts fun _ => vOf a s p r c f))
  | _ => none
noncomputable def gO2 : Ar → Pu := addC 54 c_valueOf (gO1)
theorem gO2_ok : PuOk Tryz.prog gl0 (gO2 std) := by
  refine addC_ok (gO1_ok) ⟨_, Tryz.func54, rfl, by decide⟩ ?_
  · intro args p r h hp
    unfold c_valueOf at h
    split at h <;> cases h
    exact good_valueOf _ _ _ _ _ _ _ hp.1 hp.2
theorem dIs_len (k a s : Int) (p r c : List UInt8) : (dIs k a s p r c).length = (fOf k).length := by rw [dIs_map, List.length_map]
theorem fOf_len (k : Int) : 3 ≤ (fOf k).length ∧ (fOf k).length ≤ 5 := by
  unfold fOf
  split
  · decide
  · split <;> decide
theorem dIs_take {k a s : Int} {p r c : List UInt8} {i : Nat} (h : i < (fOf k).length) : (dIs k a s p r c).take (i + 1) = (dIs k a s p r c).take i ++ [((fOf k).getD i 0, vOf a s p r c ((fOf k).getD i 0))] := by
  rw [dIs_map, ← List.map_take, ← List.map_take, ← take_snoc (d := 0) h, List.map_append]
  rfl
def dWT (k a s : Int) (p r c : List UInt8) : List UInt8 := if dR k a s p r c = true then tyOf k else []
def dWL (k a s : Int) (p r c : List UInt8) : List It := if dR k a s p r c = true then dIs k a s p r c else []
def dWe (k a s : Int) (p r c : List UInt8) : Int := if dR k a s p r c = true then 0 else 1
theorem dw_no {k a s : Int} {p r c : List UInt8} (h : dR k a s p r c = false) : dWT k a s p r c = [] ∧ dWL k a s p r c = [] ∧ dWe k a s p r c = 1 := by unfold dWT dWL dWe; rw [h]; exact ⟨rfl, rfl, rfl⟩
theorem dw_yes {k a s : Int} {p r c : List UInt8} (h : dR k a s p r c = true) : dWT k a s p r c = tyOf k ∧ dWL k a s p r c = dIs k a s p r c ∧ dWe k a s p r c = 0 := by unfold dWT dWL dWe; rw [h]; exact ⟨rfl, rfl, rfl⟩
theorem good_dWrite (k a s : Int) (p r c : List UInt8) (ha : 0 ≤ a ∧ a < 18446744073709551616) (hs : 0 ≤ s ∧ s < 4294967296) (hp : p.length ≤ 100000) (hr : r.length ≤ 1000000) (hcc : c.length ≤ 1000000) : GoodP Tryz.prog gl0 19 [.agg [.int .i64 k, .str p, .int .u64 a, .int .u32 s, .str r, .str c]] (.tup [.agg [.str (std.ts fun _ => dWT k a s p r c), rowS eI (0, []) 2 std fun _ => dWL k a s p r c], .int .i64 (std.ti fun _ => dWe k a s p r c)]) := by
  refine fn_sound' (T := seatT) (G := gO2) (X := noX) seatT_ok gO2_ok noX_ok noI_ok mixed Tryz.func19 (.none) (fun A => [.agg [.int .i64 k, .str p, .int .u64 a, .int .u32 s, .str r, .str c]]) (fun A => .tup [.agg [.str (A.ts fun _ => dWT k a s p r c), rowS eI (0, []) 2 A fun _ => dWL k a s p r c], .int .i64 (A.ti fun _ => dWe k a s p r c)]) fun A hA => ?_
  cbv
  repeat' (first | with_reducible exact True.intro | with_reducible exact dr_ok hA (by kernel_rfl) | with_reducible refine And.intro ?_ ?_ | (intro hc; cbv))
  all_goals first
    | (fail_if_success (refine Exists.intro ?_ ?_)
       subst hA
       simp [-List.getD_eq_getElem?_getD, sS] at *
       first
         | done
         | exact ⟨hp, hr, hcc⟩
         | (rw [(dw_no hc).1]; done)
         | (rw [(dw_no hc).2.1]; done)
         | (rw [(dw_no hc).2.1]; rfl)
         | (rw [(dw_no hc).2.2]; done)
         | (have hk := (dR_iff.1 hc).1
            rw [w64 (by omega)]
            omega)
         | trace_state)
    | skip
  have hd : dR k a s p r c = true := by
    subst hA
    simpa [sS] using hc
  have hk := (dR_iff.1 hd).1
  have hw := dw_yes hd
  clear hc
  refine ⟨⟨{q : Nat × List It // q.1 ≤ (fOf k).length ∧ q.2 = (dIs k a s p r c).take q.1}, fun b q => [(21, .int .i64 (q.1.1 : Nat))], fun b q => [(b, .row 107 2 (A.tn fun _ => q.1.2.length) (rowF eI (0, []) A fun _ => q.1.2)), (12, .box 51 [.str (A.ts fun _ => tyOf k), .own b])], fun q => (fOf k).length - q.1.1, true⟩, ⟨⟨(0, []), by simp⟩, ?_⟩, ?_⟩
  · cbv
    subst hA
    simp only [sS]
    rcases (show k = 1 ∨ k = 2 ∨ k = 3 ∨ k = 4 ∨ k = 5 ∨ k = 6 ∨ k = 7 by omega) with rfl | rfl | rfl | rfl | rfl | rfl | rfl
    all_goals first
      | decide
      | (simp [tyOf, sS]; done)
      | (simp [tyOf, sS]; rfl)
      | trace_state
  · rintro ⟨⟨i, M⟩, hi, hM⟩
    simp only at hi hM
    have hf5 := fOf_len k
    have hMl : M.length = i := by rw [hM, List.length_take, dIs_len]; omega
    cbv
    repeat' (first | with_reducible exact True.intro | with_reducible exact dr_ok hA (by kernel_rfl) | with_reducible refine And.intro ?_ ?_ | (intro hc; cbv))
    all_goals first
      | (fail_if_success (refine Exists.intro ?_ ?_)
         have hlt : i < (fOf k).length := by (clear hM hMl hw hd hk; subst hA; simp [sS] at *; omega)
         subst hA
         simp [-List.getD_eq_getElem?_getD, sS] at *
         first
           | done
           | omega
           | assumption
           | exact ⟨ha, hs⟩
           | (constructor <;> omega)
           | trace_state)
      | (fail_if_success (refine Exists.intro ?_ ?_)
         have hie : i = (fOf k).length := by (clear hM hMl hw hd hk; subst hA; simp [sS] at *; omega)
         have hM2 : M = dIs k a s p r c := by rw [hM, hie, ← dIs_len k a s p r c, List.take_length]
         subst hA
         simp only [sS]
         first
           | exact hw.1.symm
           | (rw [hw.1]; done)
           | (rw [hw.2.1, hM2]; done)
           | (rw [hw.2.1, hM2]; exact (Reps.lit _).eqr)
           | exact hw.2.2.symm
           | trace_state)
      | (have hlt : i < (fOf k).length := by (clear hM hMl hw hd hk; subst hA; simp [sS] at *; omega)
         obtain ⟨i', hi'⟩ : ∃ i', i' = i + 1 := ⟨_, rfl⟩
         obtain ⟨M', hM'⟩ : ∃ M', M' = (dIs k a s p r c).take i' := ⟨_, rfl⟩
         refine ⟨⟨(i', M'), by omega, hM'⟩, ?_, show (fOf k).length - i' < (fOf k).length - i by omega⟩
         rw [hi', dIs_take hlt, ← hM] at hM'
         cbv
         subst hA
         simp [-List.getD_eq_getElem?_getD, sS, strOf_lit, lstOf_lit inj_eB, lstOf_lit inj_eZ, lstOf_lit inj_eBs, lstOf_lit inj_eS, isRow_lit, isB_lit, isRow_nil, lstOf_nil inj_eB, lstOf_nil inj_eZ, lstOf_nil inj_eBs, lstOf_nil inj_eS]
         first
           | exact ⟨(w64 (by omega)).trans (by omega), by rw [hM']; simp, snoc_row rfl (cell_eI _ _) hM'.symm (by rw [hM']; simp)⟩
           | trace_state)
      | trace_state
end Go.Vd

set_option linter.unusedVariables false
set_option linter.unusedSimpArgs false
set_option maxRecDepth 100000
set_option maxHeartbeats 8000000
namespace Go.Vd
open Go.Proofs
theorem fs_ext {L : List It} {F : List Int} (hl : L.length = F.length) (h : ∀ j, j < L.length → (L.getD j (0, [])).1 = F.getD j 0) : fs L = F := by
  refine List.ext_getElem (by simp [fs, hl]) fun j h1 h2 => ?_
  have h3 : j < L.length := by simpa [fs] using h1
  have := h j h3
  rw [List.getD_eq_getElem?_getD, List.getD_eq_getElem?_getD, List.getElem?_eq_getElem h3, List.getElem?_eq_getElem h2] at this
  simpa [fs] using this
theorem fs_no {L : List It} {F : List Int} {i : Nat} (hi : i < L.length) (h : ¬(L.getD i (0, [])).1 = F.getD i 0) : ¬fs L = F := by
  rintro rfl
  apply h
  rw [List.getD_eq_getElem?_getD, List.getD_eq_getElem?_getD, List.getElem?_eq_getElem hi, List.getElem?_eq_getElem (by simpa [fs] using hi)]
  simp [fs]
noncomputable def iEq : Nat → Option Func := addI 134 Tryz.f134 (addI 135 Tryz.f135 noI)
theorem iEq_ok : InOk Tryz.prog iEq := addI_ok (addI_ok noI_ok Tryz.func135 (by kernel_rfl)) Tryz.func134 (by kernel_rfl)
theorem good_hasJust (T : List UInt8) (L : List It) (F : List Int) (hL : L.length ≤ 1000000) (hF : F.length ≤ 1000000) : GoodP Tryz.prog gl0 88 [.agg [.str T, rowS eI (0, []) 2 std fun _ => L], rowS eZ 0 1 std fun _ => F] (.bool (std.tb fun _ => decide (fs L = F))) := by
  refine fn_sound' (T := seatT) (G := gO2) (X := noX) seatT_ok gO2_ok noX_ok iEq_ok mixed Tryz.func88 (.one) (fun A => [.agg [.str T, rowS eI (0, []) 2 A fun _ => L], rowS eZ 0 1 A fun _ => F]) (fun A => .bool (A.tb fun _ => decide (fs L = F))) fun A hA => ?_
  cbv
  repeat' (first | with_reducible exact True.intro | with_reducible exact dr_ok hA (by kernel_rfl) | with_reducible refine And.intro ?_ ?_ | (intro hc; cbv))
  all_goals first
    | (fail_if_success (refine Exists.intro ?_ ?_)
       subst hA
       simp [-List.getD_eq_getElem?_getD, std_add, std_sub, std_mul, std_quo, std_rem, std_band, std_bor, std_bxor, std_shl, std_shr, std_eq, std_ne, std_lt, std_le, std_conv, std_not, std_beq, std_bne, std_ite, std_want, std_and2, std_sadd, std_seq, std_sne, std_slt, std_sle, std_sgt, std_sge, std_slen, std_sget, std_scut, std_ofNat, std_toNat, std_nsub, std_nadd, std_lenOf, std_nz, std_nneg, std_inb, std_upto, std_slt63, std_grow, std_imp, std_impN, std_tr, std_tb, std_ti, std_ts, std_tn, std_tp, std_nmin, std_makes, std_room, std_zeros, std_nilq, std_notq, std_eqi, std_eqn, std_eqb, std_eqs, std_eqv, std_cat, std_lst, std_rset, std_rcopy, std_shift, std_eqr, std_strOf, std_bytesOf, std_isB, std_zOf, zOf_int, std_isI, isI_int, std_getL, std_nmul, std_sOf, sOf_str, std_isS, isS_str, std_fadd, std_fsub, std_fav, std_fsv, std_feq, std_fne, std_flt, std_fle, std_fgt, std_fge, std_fOf, std_fTo, std_fTv] at *
       first
         | done
         | (intro e; rw [← e] at hc; simp [fs] at hc; done)
         | trace_state)
    | skip
  have hl : L.length = F.length := by
    subst hA
    simp [std_add, std_sub, std_mul, std_quo, std_rem, std_band, std_bor, std_bxor, std_shl, std_shr, std_eq, std_ne, std_lt, std_le, std_conv, std_not, std_beq, std_bne, std_ite, std_want, std_and2, std_sadd, std_seq, std_sne, std_slt, std_sle, std_sgt, std_sge, std_slen, std_sget, std_scut, std_ofNat, std_toNat, std_nsub, std_nadd, std_lenOf, std_nz, std_nneg, std_inb, std_upto, std_slt63, std_grow, std_imp, std_impN, std_tr, std_tb, std_ti, std_ts, std_tn, std_tp, std_nmin, std_makes, std_room, std_zeros, std_nilq, std_notq, std_eqi, std_eqn, std_eqb, std_eqs, std_eqv, std_cat, std_lst, std_rset, std_rcopy, std_shift, std_eqr, std_strOf, std_bytesOf, std_isB, std_zOf, zOf_int, std_isI, isI_int, std_getL, std_nmul, std_sOf, sOf_str, std_isS, isS_str, std_fadd, std_fsub, std_fav, std_fsv, std_feq, std_fne, std_flt, std_fle, std_fgt, std_fge, std_fOf, std_fTo, std_fTv] at hc
    omega
  clear hc
  refine ⟨⟨{i : Nat // i ≤ L.length ∧ ∀ j, j < i → (L.getD j (0, [])).1 = F.getD j 0}, fun b i => [(17, .int .i64 (i.1 : Nat))], fun b i => [], fun i => L.length - i.1, true⟩, ⟨⟨0, by omega, fun j hj => absurd hj (by omega)⟩, ?_⟩, ?_⟩
  · cbv
    subst hA
    simp [-List.getD_eq_getElem?_getD, std_add, std_sub, std_mul, std_quo, std_rem, std_band, std_bor, std_bxor, std_shl, std_shr, std_eq, std_ne, std_lt, std_le, std_conv, std_not, std_beq, std_bne, std_ite, std_want, std_and2, std_sadd, std_seq, std_sne, std_slt, std_sle, std_sgt, std_sge, std_slen, std_sget, std_scut, std_ofNat, std_toNat, std_nsub, std_nadd, std_lenOf, std_nz, std_nneg, std_inb, std_upto, std_slt63, std_grow, std_imp, std_impN, std_tr, std_tb, std_ti, std_ts, std_tn, std_tp, std_nmin, std_makes, std_room, std_zeros, std_nilq, std_notq, std_eqi, std_eqn, std_eqb, std_eqs, std_eqv, std_cat, std_lst, std_rset, std_rcopy, std_shift, std_eqr, std_strOf, std_bytesOf, std_isB, std_zOf, zOf_int, std_isI, isI_int, std_getL, std_nmul, std_sOf, sOf_str, std_isS, isS_str, std_fadd, std_fsub, std_fav, std_fsv, std_feq, std_fne, std_flt, std_fle, std_fgt, std_fge, std_fOf, std_fTo, std_fTv]
  · rintro ⟨i, hi, h0⟩
    cbv
    repeat' (first | with_reducible exact True.intro | with_reducible exact dr_ok hA (by kernel_rfl) | with_reducible refine And.intro ?_ ?_ | (intro hc; cbv))
    all_goals first
      | (fail_if_success (refine Exists.intro ?_ ?_)
         subst hA
         simp [-List.getD_eq_getElem?_getD, std_add, std_sub, std_mul, std_quo, std_rem, std_band, std_bor, std_bxor, std_shl, std_shr, std_eq, std_ne, std_lt, std_le, std_conv, std_not, std_beq, std_bne, std_ite, std_want, std_and2, std_sadd, std_seq, std_sne, std_slt, std_sle, std_sgt, std_sge, std_slen, std_sget, std_scut, std_ofNat, std_toNat, std_nsub, std_nadd, std_lenOf, std_nz, std_nneg, std_inb, std_upto, std_slt63, std_grow, std_imp, std_impN, std_tr, std_tb, std_ti, std_ts, std_tn, std_tp, std_nmin, std_makes, std_room, std_zeros, std_nilq, std_notq, std_eqi, std_eqn, std_eqb, std_eqs, std_eqv, std_cat, std_lst, std_rset, std_rcopy, std_shift, std_eqr, std_strOf, std_bytesOf, std_isB, std_zOf, zOf_int, std_isI, isI_int, std_getL, std_nmul, std_sOf, sOf_str, std_isS, isS_str, std_fadd, std_fsub, std_fav, std_fsv, std_feq, std_fne, std_flt, std_fle, std_fgt, std_fge, std_fOf, std_fTo, std_fTv] at *
         first
           | done
           | omega
           | exact fs_no (by omega) hc
           | (have hie : i = L.length := by omega
              subst hie
              exact fs_ext hl h0)
           | trace_state)
      | (have hlt : i < L.length := by (clear h0; subst hA; simp [-List.getD_eq_getElem?_getD, std_add, std_sub, std_mul, std_quo, std_rem, std_band, std_bor, std_bxor, std_shl, std_shr, std_eq, std_ne, std_lt, std_le, std_conv, std_not, std_beq, std_bne, std_ite, std_want, std_and2, std_sadd, std_seq, std_sne, std_slt, std_sle, std_sgt, std_sge, std_slen, std_sget, std_scut, std_ofNat, std_toNat, std_nsub, std_nadd, std_lenOf, std_nz, std_nneg, std_inb, std_upto, std_slt63, std_grow, std_imp, std_impN, std_tr, std_tb, std_ti, std_ts, std_tn, std_tp, std_nmin, std_makes, std_room, std_zeros, std_nilq, std_notq, std_eqi, std_eqn, std_eqb, std_eqs, std_eqv, std_cat, std_lst, std_rset, std_rcopy, std_shift, std_eqr, std_strOf, std_bytesOf, std_isB, std_zOf, zOf_int, std_isI, isI_int, std_getL, std_nmul, std_sOf, sOf_str, std_isS, isS_str, std_fadd, std_fsub, std_fav, std_fsv, std_feq, std_fne, std_flt, std_fle, std_fgt, std_fge, std_fOf, std_fTo, std_fTv] at *; omega)
         have hne : (L.getD i (0, [])).1 = F.getD i 0 := by (clear h0; subst hA; simp [-List.getD_eq_getElem?_getD, std_add, std_sub, std_mul, std_quo, std_rem, std_band, std_bor, std_bxor, std_shl, std_shr, std_eq, std_ne, std_lt, std_le, std_conv, std_not, std_beq, std_bne, std_ite, std_want, std_and2, std_sadd, std_seq, std_sne, std_slt, std_sle, std_sgt, std_sge, std_slen, std_sget, std_scut, std_ofNat, std_toNat, std_nsub, std_nadd, std_lenOf, std_nz, std_nneg, std_inb, std_upto, std_slt63, std_grow, std_imp, std_impN, std_tr, std_tb, std_ti, std_ts, std_tn, std_tp, std_nmin, std_makes, std_room, std_zeros, std_nilq, std_notq, std_eqi, std_eqn, std_eqb, std_eqs, std_eqv, std_cat, std_lst, std_rset, std_rcopy, std_shift, std_eqr, std_strOf, std_bytesOf, std_isB, std_zOf, zOf_int, std_isI, isI_int, std_getL, std_nmul, std_sOf, sOf_str, std_isS, isS_str, std_fadd, std_fsub, std_fav, std_fsv, std_feq, std_fne, std_flt, std_fle, std_fgt, std_fge, std_fOf, std_fTo, std_fTv] at *; exact hc)
         refine ⟨⟨i + 1, by omega, fun j hj => ?_⟩, ?_, show L.length - (i + 1) < L.length - i by omega⟩
         · by_cases e : j = i
           · subst e; exact hne
           · exact h0 j (by omega)
         cbv
         subst hA
         simp [std_add, std_sub, std_mul, std_quo, std_rem, std_band, std_bor, std_bxor, std_shl, std_shr, std_eq, std_ne, std_lt, std_le, std_conv, std_not, std_beq, std_bne, std_ite, std_want, std_and2, std_sadd, std_seq, std_sne, std_slt, std_sle, std_sgt, std_sge, std_slen, std_sget, std_scut, std_ofNat, std_toNat, std_nsub, std_nadd, std_lenOf, std_nz, std_nneg, std_inb, std_upto, std_slt63, std_grow, std_imp, std_impN, std_tr, std_tb, std_ti, std_ts, std_tn, std_tp, std_nmin, std_makes, std_room, std_zeros, std_nilq, std_notq, std_eqi, std_eqn, std_eqb, std_eqs, std_eqv, std_cat, std_lst, std_rset, std_rcopy, std_shift, std_eqr, std_strOf, std_bytesOf, std_isB, std_zOf, zOf_int, std_isI, isI_int, std_getL, std_nmul, std_sOf, sOf_str, std_isS, isS_str, std_fadd, std_fsub, std_fav, std_fsv, std_feq, std_fne, std_flt, std_fle, std_fgt, std_fge, std_fOf, std_fTo, std_fTv]
         exact (w64 (by omega)).trans (by omega))
      | trace_state
theorem good_number (T : List UInt8) (L : List It) (n : Int) (hL : L.length ≤ 1000000) : GoodP Tryz.prog gl0 89 [.agg [.str T, rowS eI (0, []) 2 std fun _ => L], .int .i64 n] (.int .u64 (std.ti fun _ => (gVal (mG L n) : Int))) := by
  refine fn_sound' (T := seatT) (G := gO2) (X := noX) seatT_ok gO2_ok noX_ok noI_ok mixed Tryz.func89 (.one) (fun A => [.agg [.str T, rowS eI (0, []) 2 A fun _ => L], .int .i64 n]) (fun A => .int .u64 (A.ti fun _ => (gVal (mG L n) : Int))) fun A hA => ?_
  cbv
  repeat' (first | with_reducible exact True.intro | with_reducible exact dr_ok hA (by kernel_rfl) | with_reducible refine And.intro ?_ ?_ | (intro hc; cbv))
  all_goals (subst hA; simp [std_add, std_sub, std_mul, std_quo, std_rem, std_band, std_bor, std_bxor, std_shl, std_shr, std_eq, std_ne, std_lt, std_le, std_conv, std_not, std_beq, std_bne, std_ite, std_want, std_and2, std_sadd, std_seq, std_sne, std_slt, std_sle, std_sgt, std_sge, std_slen, std_sget, std_scut, std_ofNat, std_toNat, std_nsub, std_nadd, std_lenOf, std_nz, std_nneg, std_inb, std_upto, std_slt63, std_grow, std_imp, std_impN, std_tr, std_tb, std_ti, std_ts, std_tn, std_tp, std_nmin, std_makes, std_room, std_zeros, std_nilq, std_notq, std_eqi, std_eqn, std_eqb, std_eqs, std_eqv, std_cat, std_lst, std_rset, std_rcopy, std_shift, std_eqr, std_strOf, std_bytesOf, std_isB, std_zOf, zOf_int, std_isI, isI_int, std_getL, std_nmul, std_sOf, sOf_str, std_isS, isS_str, std_fadd, std_fsub, std_fav, std_fsv, std_feq, std_fne, std_flt, std_fle, std_fgt, std_fge, std_fOf, std_fTo, std_fTv, lstOf_lit inj_eI, isRow_lit] at *)
  all_goals first
    | omega
    | trace_state
theorem good_namesFirst (T : List UInt8) (L : List It) (hL : L.length ≤ 1000000) (h11 : (mG L 11).length ≤ 1000) : GoodP Tryz.prog gl0 92 [.agg [.str T, rowS eI (0, []) 2 std fun _ => L]] (.bool (std.tb fun _ => decide (mG L 90 = frst (mG L 11)))) := by
  refine fn_sound' (T := seatT) (G := gO2) (X := noX) seatT_ok gO2_ok noX_ok noI_ok mixed Tryz.func92 (.one) (fun A => [.agg [.str T, rowS eI (0, []) 2 A fun _ => L]]) (fun A => .bool (A.tb fun _ => decide (mG L 90 = frst (mG L 11)))) fun A hA => ?_
  cbv
  repeat' (first | with_reducible exact True.intro | with_reducible exact dr_ok hA (by kernel_rfl) | with_reducible refine And.intro ?_ ?_ | (intro hc; cbv))
  all_goals (subst hA; simp [std_add, std_sub, std_mul, std_quo, std_rem, std_band, std_bor, std_bxor, std_shl, std_shr, std_eq, std_ne, std_lt, std_le, std_conv, std_not, std_beq, std_bne, std_ite, std_want, std_and2, std_sadd, std_seq, std_sne, std_slt, std_sle, std_sgt, std_sge, std_slen, std_sget, std_scut, std_ofNat, std_toNat, std_nsub, std_nadd, std_lenOf, std_nz, std_nneg, std_inb, std_upto, std_slt63, std_grow, std_imp, std_impN, std_tr, std_tb, std_ti, std_ts, std_tn, std_tp, std_nmin, std_makes, std_room, std_zeros, std_nilq, std_notq, std_eqi, std_eqn, std_eqb, std_eqs, std_eqv, std_cat, std_lst, std_rset, std_rcopy, std_shift, std_eqr, std_strOf, std_bytesOf, std_isB, std_zOf, zOf_int, std_isI, isI_int, std_getL, std_nmul, std_sOf, sOf_str, std_isS, isS_str, std_fadd, std_fsub, std_fav, std_fsv, std_feq, std_fne, std_flt, std_fle, std_fgt, std_fge, std_fOf, std_fTo, std_fTv, lstOf_lit inj_eI, isRow_lit] at *)
  all_goals first
    | omega
    | (rw [Bool.eq_iff_iff]; simp; done)
    | trace_state
noncomputable def c_hasJust : Ct := fun A args => match args with
  | [.agg [.str T, .slc n 2 f], .slc m 1 g] => some (some (A.tp fun _ => isRow eI (0, []) 2 n f ∧ isRow eZ 0 1 m g ∧ n ≤ 1000000 ∧ m ≤ 1000000), .bool (A.tb fun _ => decide (fs (lstOf eI (0, []) 2 n f) = lstOf eZ 0 1 m g)))
  | _ => none
noncomputable def c_number : Ct := fun A args => match args with
  | [.agg [.str T, .slc n 2 f], .int .i64 z] => some (some (A.tp fun _ => isRow eI (0, []) 2 n f ∧ n ≤ 1000000), .int .u64 (A.ti fun _ => (gVal (mG (lstOf eI (0, []) 2 n f) z) : Int)))
  | _ => none
noncomputable def c_namesFirst : Ct := fun A args => match args with
  | [.agg [.str T, .slc n 2 f]] => some (some (A.tp fun _ => isRow eI (0, []) 2 n f ∧ n ≤ 1000000 ∧ (mG (lstOf eI (0, []) 2 n f) 11).length ≤ 1000), .bool (A.tb fun _ => decide (mG (lstOf eI (0, []) 2 n f) 90 = frst (mG (lstOf eI (0, []) 2 n f) 11))))
  | _ => none
noncomputable def gO3 : Ar → Pu := addC 88 c_hasJust (addC 89 c_number (addC 92 c_namesFirst (gO2)))
theorem gO3_ok : PuOk Tryz.prog gl0 (gO3 std) := by
  refine addC_ok (addC_ok (addC_ok (gO2_ok) ⟨_, Tryz.func92, rfl, by decide⟩ ?_) ⟨_, Tryz.func89, rfl, by decide⟩ ?_) ⟨_, Tryz.func88, rfl, by decide⟩ ?_
  · intro args p r h hp
    unfold c_namesFirst at h
    split at h <;> cases h
    exact good_sv (good_namesFirst _ _ (by rw [lstOf_length hp.1]; exact hp.2.1) hp.2.2) ⟨⟨_, rfl, rfl, hp.1.sv, trivial⟩, trivial⟩
  · intro args p r h hp
    unfold c_number at h
    split at h <;> cases h
    exact good_sv (good_number _ _ _ (by rw [lstOf_length hp.1]; exact hp.2)) ⟨⟨_, rfl, rfl, hp.1.sv, trivial⟩, rfl, trivial⟩
  · intro args p r h hp
    unfold c_hasJust at h
    split at h <;> cases h
    exact good_sv (good_hasJust _ _ _ (by rw [lstOf_length hp.1]; exact hp.2.2.1) (by rw [lstOf_length hp.2.1]; exact hp.2.2.2)) ⟨⟨_, rfl, rfl, hp.1.sv, trivial⟩, hp.2.1.sv, trivial⟩
theorem de_1 {T : List UInt8} {L : List It} (h : mR T L = false) : dE T L = 1 := if_pos h
theorem de_2 {T : List UInt8} {L : List It} (h : mR T L = true) (h1 : ¬fs L = fOf (kdOf T)) : dE T L = 3 := by unfold dE; rw [if_neg (by simp [h]), if_pos h1]
theorem de_3 {T : List UInt8} {L : List It} (h : mR T L = true) (h1 : fs L = fOf (kdOf T)) (h2 : dAsks (kdOf T) = false) : dE T L = 0 := by unfold dE; rw [if_neg (by simp [h]), if_neg (by simp [h1]), if_pos h2]
theorem de_4 {T : List UInt8} {L : List It} (h : mR T L = true) (h1 : fs L = fOf (kdOf T)) (h2 : dAsks (kdOf T) = true) (h3 : lFine (mG L 2) = false) : dE T L = 3 := by unfold dE; rw [if_neg (by simp [h]), if_neg (by simp [h1]), if_neg (by simp [h2]), if_pos h3]
theorem de_5 {T : List UInt8} {L : List It} (h : mR T L = true) (h1 : fs L = fOf (kdOf T)) (h2 : dAsks (kdOf T) = true) (h3 : lFine (mG L 2) = true) (h4 : kdOf T = 5 ∨ kdOf T = 6) (h5 : ¬mG L 90 = frst (mG L 11)) : dE T L = 11 := by unfold dE; rw [if_neg (by simp [h]), if_neg (by simp [h1]), if_neg (by simp [h2]), if_neg (by simp [h3]), if_pos ⟨tl_iff.2 h4, h5⟩]
theorem de_6 {T : List UInt8} {L : List It} (h : mR T L = true) (h1 : fs L = fOf (kdOf T)) (h2 : dAsks (kdOf T) = true) (h3 : lFine (mG L 2) = true) (h4 : (kdOf T = 5 ∨ kdOf T = 6) → mG L 90 = frst (mG L 11)) : dE T L = 0 := by unfold dE; rw [if_neg (by simp [h]), if_neg (by simp [h1]), if_neg (by simp [h2]), if_neg (by simp [h3]), if_neg (fun e => e.2 (h4 (tl_iff.1 e.1)))]
theorem mG_len {T : List UInt8} {L : List It} (h : mR T L = true) (n : Int) : (mG L n).length ≤ 999 := by
  unfold mG
  cases e : L.find? (fun x => x.1 == n) with
  | none => simp
  | some x =>
    have hx := List.mem_of_find?_eq_some e
    have h2 := rr_ok ((mR_iff.1 h).2.2.1 x hx)
    have h3 := dOk_b h2.1
    show x.2.length ≤ 999
    omega
theorem mG_11 {T : List UInt8} {L : List It} (h : mR T L = true) (h1 : fs L = fOf (kdOf T)) : gVal (mG L 11) < 1000000 := by
  have hr := (mR_iff.1 h).2.2.1
  generalize kdOf T = k at h1
  have key : ∀ x, ((11 : Int), x) ∈ L → gVal x < 1000000 := fun x hx => by
    have r := rr11.1 (hr _ hx)
    exact (num_back (n := 0) (k := 6) (by omega) r.1 r.2).2
  unfold fOf at h1
  split at h1
  · obtain ⟨x1, x2, x3, x4, x5, rfl⟩ := fl5_of h1
    exact key x3 (by simp)
  · split at h1
    · obtain ⟨x1, x2, x3, x4, rfl⟩ := fl4_of h1
      exact key x3 (by simp)
    · obtain ⟨x3, x4, x5, rfl⟩ := fl3_of h1
      exact key x3 (by simp)
theorem u32_6 {z : Int} (h : 0 ≤ z ∧ z < 1000000) : IntKind.u32.wrap z = z := by
  unfold IntKind.wrap
  simp [IntKind.signed, IntKind.bits] <;> omega
theorem good_dRead (T : List UInt8) (L : List It) (hL : L.length ≤ 1000000) (hS : ∀ i, (L.getD i (0, [])).2.length ≤ 1000000) : GoodP Tryz.prog gl0 42 [.agg [.str T, rowS eI (0, []) 2 std fun _ => L]] (.tup [.agg [.int .i64 (std.ti fun _ => xK T L), .str (std.ts fun _ => xP T L), .int .u64 (std.ti fun _ => xA T L), .int .u32 (std.ti fun _ => xS T L), .str (std.ts fun _ => xR T L), .str (std.ts fun _ => xC T L)], .int .i64 (std.ti fun _ => dE T L)]) := by
  refine fn_sound' (T := seatT) (G := gO3) (X := noX) seatT_ok gO3_ok noX_ok noI_ok mixed Tryz.func42 (.one) (fun A => [.agg [.str T, rowS eI (0, []) 2 A fun _ => L]]) (fun A => .tup [.agg [.int .i64 (A.ti fun _ => xK T L), .str (A.ts fun _ => xP T L), .int .u64 (A.ti fun _ => xA T L), .int .u32 (A.ti fun _ => xS T L), .str (A.ts fun _ => xR T L), .str (A.ts fun _ => xC T L)], .int .i64 (A.ti fun _ => dE T L)]) fun A hA => ?_
  cbv
  repeat' (first | with_reducible exact True.intro | with_reducible exact dr_ok hA (by kernel_rfl) | with_reducible refine And.intro ?_ ?_ | (intro hc; cbv))
  all_goals (subst hA; simp [-List.getD_eq_getElem?_getD, std_add, std_sub, std_mul, std_quo, std_rem, std_band, std_bor, std_bxor, std_shl, std_shr, std_eq, std_ne, std_lt, std_le, std_conv, std_not, std_beq, std_bne, std_ite, std_want, std_and2, std_sadd, std_seq, std_sne, std_slt, std_sle, std_sgt, std_sge, std_slen, std_sget, std_scut, std_ofNat, std_toNat, std_nsub, std_nadd, std_lenOf, std_nz, std_nneg, std_inb, std_upto, std_slt63, std_grow, std_imp, std_impN, std_tr, std_tb, std_ti, std_ts, std_tn, std_tp, std_nmin, std_makes, std_room, std_zeros, std_nilq, std_notq, std_eqi, std_eqn, std_eqb, std_eqs, std_eqv, std_cat, std_lst, std_rset, std_rcopy, std_shift, std_eqr, std_strOf, std_bytesOf, std_isB, std_zOf, zOf_int, std_isI, isI_int, std_getL, std_nmul, std_sOf, sOf_str, std_isS, isS_str, std_fadd, std_fsub, std_fav, std_fsv, std_feq, std_fne, std_flt, std_fle, std_fgt, std_fge, std_fOf, std_fTo, std_fTv, lstOf_lit inj_eI, lstOf_lit inj_eZ, isRow_lit] at *)
  all_goals (have hfl := fOf_len (kdOf T))
  all_goals first
    | omega
    | exact ⟨hL, hS⟩
    | (constructor <;> omega)
    | (have e := de_1 (by assumption : mR T L = false)
       have b := dE_bad (T := T) (L := L) (by rw [e]; decide)
       first | exact b.1.symm | exact b.2.1.symm | exact b.2.2.1.symm | exact b.2.2.2.1 | exact b.2.2.2.2.1 | exact b.2.2.2.2.2 | exact e.symm)
    | (have e := de_2 (by assumption : mR T L = true) (by assumption)
       have b := dE_bad (T := T) (L := L) (by rw [e]; decide)
       first | exact b.1.symm | exact b.2.1.symm | exact b.2.2.1.symm | exact b.2.2.2.1 | exact b.2.2.2.2.1 | exact b.2.2.2.2.2 | exact e.symm)
    | (have hm : mR T L = true := by assumption
       have hj : fs L = fOf (kdOf T) := by assumption
       have h2 := mG_len hm 2
       have h11 := mG_len hm 11
       have hn := u32_6 (z := (gVal (mG L 11) : Int)) ⟨by omega, by have := mG_11 hm hj; omega⟩
       first
         | omega
         | exact fun h => ⟨h, by omega, by omega⟩
         | (have e := de_4 hm hj (by assumption) (by assumption)
            have b := dE_bad (T := T) (L := L) (by rw [e]; decide)
            first | exact b.1.symm | exact b.2.1.symm | exact b.2.2.1.symm | exact b.2.2.2.1 | exact b.2.2.2.2.1 | exact b.2.2.2.2.2 | exact e.symm)
         | (have e := de_5 hm hj (by assumption) (by assumption) (hc.1.imp of_decide_eq_true of_decide_eq_true) hc.2
            have b := dE_bad (T := T) (L := L) (by rw [e]; decide)
            first | exact b.1.symm | exact b.2.1.symm | exact b.2.2.1.symm | exact b.2.2.2.1 | exact b.2.2.2.2.1 | exact b.2.2.2.2.2 | exact e.symm)
         | (have ha : dAsks (kdOf T) = false := by assumption
            have e := de_3 hm hj ha
            simp [xK, xA, xS, xP, xR, xC, e, ha, hn]
            done)
         | (have ha : dAsks (kdOf T) = true := by assumption
            have e := de_6 hm hj ha (by assumption) (fun h => hc (h.imp decide_eq_true decide_eq_true))
            simp [xK, xA, xS, xP, xR, xC, e, ha, hn]
            done)
         | trace_state)
    | trace_state
noncomputable def c_dWrite : Ct := fun A args => match args with
  | [.agg [.int .i64 k, .str p, .int .u64 a, .int .u32 s, .str r, .str c]] => some (some (A.tp fun _ => (0 ≤ a ∧ a < 18446744073709551616) ∧ (0 ≤ s ∧ s < 4294967296) ∧ p.length ≤ 100000 ∧ r.length ≤ 1000000 ∧ c.length ≤ 1000000), .tup [.agg [.str (A.ts fun _ => dWT k a s p r c), rowS eI (0, []) 2 A fun _ => dWL k a s p r c], .int .i64 (A.ti fun _ => dWe k a s p r c)])
  | _ => none
noncomputable def c_dRead : Ct := fun A args => match args with
  | [.agg [.str T, .slc n 2 f]] => some (some (A.tp fun _ => isRow eI (0, []) 2 n f ∧ n ≤ 1000000 ∧ ∀ i, ((lstOf eI (0, []) 2 n f).getD i (0, [])).2.length ≤ 1000000), .tup [.agg [.int .i64 (A.ti fun _ => xK T (lstOf eI (0, []) 2 n f)), .str (A.ts fun _ => xP T (lstOf eI (0, []) 2 n f)), .int .u64 (A.ti fun _ => xA T (lstOf eI (0, []) 2 n f)), .int .u32 (A.ti fun _ => xS T (lstOf eI (0, []) 2 n f)), .str (A.ts fun _ => xR T (lstOf eI (0, []) 2 n f)), .str (A.ts fun _ => xC T (lstOf eI (0, []) 2 n f))], .int .i64 (A.ti fun _ => dE T (lstOf eI (0, []) 2 n f))])
  | _ => none
noncomputable def gO4 : Ar → Pu := addC 19 c_dWrite (addC 42 c_dRead (gO3))
theorem gO4_ok : PuOk Tryz.prog gl0 (gO4 std) := by
  refine addC_ok (addC_ok (gO3_ok) ⟨_, Tryz.func42, rfl, by decide⟩ ?_) ⟨_, Tryz.func19, rfl, by decide⟩ ?_
  · intro args p r h hp
    unfold c_dRead at h
    split at h <;> cases h
    exact good_sv (good_dRead _ _ (by rw [lstOf_length hp.1]; exact hp.2.1) hp.2.2) ⟨⟨_, rfl, rfl, hp.1.sv, trivial⟩, trivial⟩
  · intro args p r h hp
    unfold c_dWrite at h
    split at h <;> cases h
    exact good_dWrite _ _ _ _ _ _ hp.1 hp.2.1 hp.2.2.1 hp.2.2.2.1 hp.2.2.2.2
end Go.Vd

set_option linter.unusedVariables false
set_option linter.unusedSimpArgs false
set_option maxRecDepth 100000
set_option maxHeartbeats 8000000
namespace Go.Vd
open Go.Proofs
def oSh (p r c : List UInt8) : Bool := decide (p.length ≤ 300 ∧ r.length ≤ 300 ∧ c.length ≤ 300)
theorem oSh_iff {p r c : List UInt8} : oSh p r c = true ↔ p.length ≤ 300 ∧ r.length ≤ 300 ∧ c.length ≤ 300 := by simp [oSh]
theorem good_oShort (a c s : Int) (p r e : List UInt8) : GoodP Tryz.prog gl0 18 [.agg [.int .i64 a, .str p, .int .u64 c, .int .u32 s, .str r, .str e]] (.bool (std.tb fun _ => oSh p r e)) := by
  refine fn_sound' (T := seatT) (G := noC) (X := noX) seatT_ok noC_ok noX_ok noI_ok mixed Tryz.func18 (.one) (fun A => [.agg [.int .i64 a, .str p, .int .u64 c, .int .u32 s, .str r, .str e]]) (fun A => .bool (A.tb fun _ => oSh p r e)) fun A hA => ?_
  cbv
  repeat' (first | with_reducible exact True.intro | with_reducible exact dr_ok hA (by kernel_rfl) | with_reducible refine And.intro ?_ ?_ | (intro hc; cbv))
  all_goals (subst hA; simp [std_add, std_sub, std_mul, std_quo, std_rem, std_band, std_bor, std_bxor, std_shl, std_shr, std_eq, std_ne, std_lt, std_le, std_conv, std_not, std_beq, std_bne, std_ite, std_want, std_and2, std_sadd, std_seq, std_sne, std_slt, std_sle, std_sgt, std_sge, std_slen, std_sget, std_scut, std_ofNat, std_toNat, std_nsub, std_nadd, std_lenOf, std_nz, std_nneg, std_inb, std_upto, std_slt63, std_grow, std_imp, std_impN, std_tr, std_tb, std_ti, std_ts, std_tn, std_tp, std_nmin, std_makes, std_room, std_zeros, std_nilq, std_notq, std_eqi, std_eqn, std_eqb, std_eqs, std_eqv, std_cat, std_lst, std_rset, std_rcopy, std_shift, std_eqr, std_strOf, std_bytesOf, std_isB, std_zOf, zOf_int, std_isI, isI_int, std_getL, std_nmul, std_sOf, sOf_str, std_isS, isS_str, std_fadd, std_fsub, std_fav, std_fsv, std_feq, std_fne, std_flt, std_fle, std_fgt, std_fge, std_fOf, std_fTo, std_fTv, oSh] at *)
  all_goals first
    | (rw [Bool.eq_iff_iff]; simp; omega)
    | (intro _ _; constructor <;> assumption)
    | trace_state
noncomputable def c_oShort : Ct := fun A args => match args with
  | [.agg [.int .i64 a, .str p, .int .u64 c, .int .u32 s, .str r, .str e]] => some (none, .bool (A.tb fun _ => oSh p r e))
  | _ => none
noncomputable def gO5a : Ar → Pu := gO4
theorem gO5a_ok : PuOk Tryz.prog gl0 (gO5a std) := gO4_ok
noncomputable def gO5 : Ar → Pu := addC 18 c_oShort (gO5a)
theorem gO5_ok : PuOk Tryz.prog gl0 (gO5 std) := by
  refine addC_ok (gO5a_ok) ⟨_, Tryz.func18, rfl, by decide⟩ ?_
  · intro args p r h hp
    unfold c_oShort at h
    split at h <;> cases h
    exact good_oShort _ _ _ _ _ _
def dL0 : List It := [(2, [49, 56]), (4, [48, 48, 48, 48, 48, 48, 48, 48, 48, 53, 48, 48]), (11, [48, 48, 48, 48, 48, 55]), (37, [97, 98, 99, 100, 101, 102, 103, 104, 105, 106, 107, 108]), (90, [48, 49, 48, 48, 48, 48, 48, 48, 48, 55] ++ List.replicate 32 48)]
theorem dq0 : dWT 5 500 7 [49, 56] [97, 98, 99, 100, 101, 102, 103, 104, 105, 106, 107, 108] [] = [48, 52, 50, 48] ∧ dWL 5 500 7 [49, 56] [97, 98, 99, 100, 101, 102, 103, 104, 105, 106, 107, 108] [] = dL0 ∧ dWe 5 500 7 [49, 56] [97, 98, 99, 100, 101, 102, 103, 104, 105, 106, 107, 108] [] = 0 := by decide +kernel
theorem dq1 : dWT 1 0 0 [49, 57] [97, 98, 99, 100, 101, 102, 103, 104, 105, 106, 107, 108] [] = [] ∧ dWL 1 0 0 [49, 57] [97, 98, 99, 100, 101, 102, 103, 104, 105, 106, 107, 108] [] = [] ∧ dWe 1 0 0 [49, 57] [97, 98, 99, 100, 101, 102, 103, 104, 105, 106, 107, 108] [] = 1 := by decide +kernel
theorem dq2 : dE [48, 52, 50, 48] dL0 = 0 ∧ xK [48, 52, 50, 48] dL0 = 5 ∧ xA [48, 52, 50, 48] dL0 = 500 ∧ xS [48, 52, 50, 48] dL0 = 7 ∧ xP [48, 52, 50, 48] dL0 = [49, 56] ∧ xR [48, 52, 50, 48] dL0 = [97, 98, 99, 100, 101, 102, 103, 104, 105, 106, 107, 108] ∧ xC [48, 52, 50, 48] dL0 = [] := by decide +kernel
theorem dq3 : dR 5 500 7 [49, 56] [97, 98, 99, 100, 101, 102, 103, 104, 105, 106, 107, 108] [] = true ∧ dAsks 3 = true ∧ dAsks 7 = false := by decide +kernel
theorem dq4 : dL0.length = 5 ∧ (dL0.getD 1 (0, [])).2 = [48, 48, 48, 48, 48, 48, 48, 48, 48, 53, 48, 48] := ⟨rfl, rfl⟩
theorem dq5 : ∀ i, (dL0.getD i (0, [])).2.length ≤ 1000000 := fun i => Nat.le_trans (mSh_getD (T := mT0) (L := dL0) (by decide +kernel) i) (by decide)
noncomputable def gO6 : Ar → Pu := gO5
theorem gO6_ok : PuOk Tryz.prog gl0 (gO6 std) := by
  refine gO5_ok
theorem dR_len {k a s : Int} {p r c : List UInt8} (h : dR k a s p r c = true) : p.length ≤ 19 ∧ r.length ≤ 12 ∧ c.length ≤ 2 ∧ a < 1000000000000 ∧ s ≤ 999999 := by
  obtain ⟨h0, h1, h2, h3, h4⟩ := dR_iff.1 h
  have q := rr_ok h2
  rw [fo37.2.2] at q
  cases e : dAsks k
  · obtain ⟨g1, g2, g3⟩ := h4 e
    have q' := rr_ok g1
    rw [fo39.2.2] at q'
    subst g2 g3
    exact ⟨by simp, by omega, by omega, by omega, h1⟩
  · obtain ⟨g1, g2, g3, g4⟩ := h3 e
    subst g4
    exact ⟨by omega, by omega, by simp, g3, h1⟩
theorem dWe_R {k a s : Int} {p r c : List UInt8} (h : dWe k a s p r c = 0) : dR k a s p r c = true := by
  cases e : dR k a s p r c
  · rw [(dw_no e).2.2] at h; cases h
  · rfl
theorem dd_two {k a s k' a' s' : Int} {p r c p' r' c' : List UInt8} (h : dR k a s p r c = true) (h' : dR k' a' s' p' r' c' = true) (ha : 0 ≤ a) (hs : 0 ≤ s) (ha' : 0 ≤ a') (hs' : 0 ≤ s') :
    (tyOf k = tyOf k' ∧ dIs k a s p r c = dIs k' a' s' p' r' c') ↔ (k = k' ∧ p = p' ∧ a = a' ∧ s = s' ∧ r = r' ∧ c = c') := by
  constructor
  · rintro ⟨e1, e2⟩
    have b := d_back h ha hs
    have b' := d_back h' ha' hs'
    rw [e1, e2] at b
    exact ⟨b.2.1.symm.trans b'.2.1, b.2.2.2.2.1.symm.trans b'.2.2.2.2.1, b.2.2.1.symm.trans b'.2.2.1, b.2.2.2.1.symm.trans b'.2.2.2.1, b.2.2.2.2.2.1.symm.trans b'.2.2.2.2.2.1, b.2.2.2.2.2.2.symm.trans b'.2.2.2.2.2.2⟩
  · rintro ⟨rfl, rfl, rfl, rfl, rfl, rfl⟩
    exact ⟨rfl, rfl⟩
end Go.Vd

