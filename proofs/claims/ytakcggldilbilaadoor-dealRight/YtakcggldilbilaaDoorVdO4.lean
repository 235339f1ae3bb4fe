/- Deals: what is written and read, as lists. -/
import Derived.Test.YtakcggldilbilaaDoorVdMM
import Derived.Test.YtakcggldilbilaaDoorVdG8
import Derived.Test.YtakcggldilbilaaDoorVdM5
set_option linter.unusedVariables false
set_option linter.unusedSimpArgs false
set_option maxRecDepth 100000
set_option maxHeartbeats 4000000
namespace Go.Vd
open Go.Proofs
def tyOf (k : Int) : List UInt8 := if k = 1 then [48, 49, 48, 48] else if k = 2 then [48, 49, 49, 48] else if k = 3 then [48, 52, 48, 48] else if k = 4 then [48, 52, 49, 48] else if k = 5 then [48, 52, 50, 48] else if k = 6 then [48, 52, 50, 49] else if k = 7 then [48, 52, 51, 48] else []
def kdOf (T : List UInt8) : Int := if T = [48, 49, 48, 48] then 1 else if T = [48, 49, 49, 48] then 2 else if T = [48, 52, 48, 48] then 3 else if T = [48, 52, 49, 48] then 4 else if T = [48, 52, 50, 48] then 5 else if T = [48, 52, 50, 49] then 6 else if T = [48, 52, 51, 48] then 7 else 0
def fOf (k : Int) : List Int := if k = 5 ∨ k = 6 then [2, 4, 11, 37, 90] else if dAsks k = true then [2, 4, 11, 37] else [11, 37, 39]
/-- What field 90 must be. -/
def frst (x : List UInt8) : List UInt8 := [48, 49, 48, 48] ++ (x ++ List.replicate 32 48)
def dIs (k a s : Int) (p r c : List UInt8) : List It := if k = 5 ∨ k = 6 then [(2, p), (4, puS a 12), (11, puS s 6), (37, r), (90, frst (puS s 6))] else if dAsks k = true then [(2, p), (4, puS a 12), (11, puS s 6), (37, r)] else [(11, puS s 6), (37, r), (39, c)]
def tl (k : Int) : Bool := decide (k = 5) || decide (k = 6)
theorem tl_iff {k : Int} : tl k = true ↔ k = 5 ∨ k = 6 := by simp [tl]
theorem fo2 : dOk 2 = true ∧ dKd 2 = 3 ∧ dSz 2 = 19 := by decide +kernel
theorem fo4 : dOk 4 = true ∧ dKd 4 = 1 ∧ dSz 4 = 12 := by decide +kernel
theorem fo11 : dOk 11 = true ∧ dKd 11 = 1 ∧ dSz 11 = 6 := by decide +kernel
theorem fo90 : dOk 90 = true ∧ dKd 90 = 1 ∧ dSz 90 = 42 := by decide +kernel
theorem fo37 : dOk 37 = true ∧ dKd 37 = 2 ∧ dSz 37 = 12 := by decide +kernel
theorem fo39 : dOk 39 = true ∧ dKd 39 = 2 ∧ dSz 39 = 2 := by decide +kernel
theorem rr2 {p : List UInt8} : rr 2 p = true ↔ (1 ≤ (p.length : Int) ∧ (p.length : Int) ≤ 19) ∧ isD p = true := by rw [rr_of3 fo2.1 fo2.2.1, fo2.2.2]
theorem rr4 {p : List UInt8} : rr 4 p = true ↔ (p.length : Int) = 12 ∧ isD p = true := by rw [rr_of1 fo4.1 fo4.2.1, fo4.2.2]
theorem rr11 {p : List UInt8} : rr 11 p = true ↔ (p.length : Int) = 6 ∧ isD p = true := by rw [rr_of1 fo11.1 fo11.2.1, fo11.2.2]
theorem rr90 {p : List UInt8} : rr 90 p = true ↔ (p.length : Int) = 42 ∧ isD p = true := by rw [rr_of1 fo90.1 fo90.2.1, fo90.2.2]
theorem fine_isD {p : List UInt8} (h : lFine p = true) : isD p = true := by unfold lFine at h; simp at h; exact h.1
theorem isD_len {p : List UInt8} (h : isD p = true) : 1 ≤ p.length := by
  have := (isD_iff.1 h).1
  cases p with
  | nil => exact absurd rfl this
  | cons a l => simp
/-- A number within its digits. -/
theorem pu_in {v : Int} {k : Nat} (hk : 1 ≤ k ∧ k ≤ 19) (h0 : 0 ≤ v) (h : v.toNat < 10 ^ k) : puE v k = 0 ∧ puS v k = decs k v.toNat := by
  have := pu3 (v := v) (n := (k : Int)) (by omega) (by simpa using h)
  simpa [and_comm] using this
theorem get_isD {L : List UInt8} (h : isD L = true) (hl : L.length ≤ 19) : gErr L = 0 ∧ gVal L = dVal L ∧ dVal L < 10 ^ L.length := by
  have hd := (isD_iff.1 h).2
  have h1 := isD_len h
  have hlt := dVal_lt L hd
  have e := decs_dVal L hd
  have := get_decs (k := L.length) (V := dVal L) ⟨h1, hl⟩ hlt
  rw [e] at this
  exact ⟨this.1, this.2, hlt⟩
theorem frst_rr {x : List UInt8} (hx : isD x = true) (hl : x.length = 6) : rr 90 (frst x) = true := by
  rw [rr90]
  refine ⟨by simp [frst, hl], isD_iff.2 ⟨by simp [frst], fun b hb => ?_⟩⟩
  unfold frst at hb
  rw [List.mem_append, List.mem_append, List.mem_replicate] at hb
  rcases hb with hb | hb | ⟨_, rfl⟩
  · simp at hb
    rcases hb with rfl | rfl | rfl <;> decide
  · exact (isD_iff.1 hx).2 b hb
  · decide
theorem dR_iff {k a s : Int} {p r c : List UInt8} : dR k a s p r c = true ↔ (1 ≤ k ∧ k ≤ 7) ∧ s ≤ 999999 ∧ rr 37 r = true ∧ (dAsks k = true → lFine p = true ∧ (p.length : Int) ≤ 19 ∧ a < 1000000000000 ∧ c = []) ∧ (dAsks k = false → rr 39 c = true ∧ p = [] ∧ a = 0) := by
  unfold dR
  cases e : dAsks k <;> simp
theorem tyOf_T {k : Int} (h : 1 ≤ k ∧ k ≤ 7) : mT (tyOf k) = true ∧ kdOf (tyOf k) = k := by
  rcases (show k = 1 ∨ k = 2 ∨ k = 3 ∨ k = 4 ∨ k = 5 ∨ k = 6 ∨ k = 7 by omega) with rfl | rfl | rfl | rfl | rfl | rfl | rfl <;> decide
theorem kdOf_T {T : List UInt8} (h : mT T = true) : (1 ≤ kdOf T ∧ kdOf T ≤ 7) ∧ tyOf (kdOf T) = T := by
  unfold mT at h
  simp only [List.contains_eq_mem, List.mem_cons, List.not_mem_nil, or_false, decide_eq_true_eq] at h
  rcases h with rfl | rfl | rfl | rfl | rfl | rfl | rfl <;> decide
theorem asks_tl {k : Int} (h : k = 5 ∨ k = 6) : dAsks k = true := by rcases h with rfl | rfl <;> decide
def dKa (k : Int) : Prop := k = 5 ∨ k = 6
/-- What a deal that is right says. -/
theorem dR_parts {k a s : Int} {p r c : List UInt8} (h : dR k a s p r c = true) (ha : 0 ≤ a) (hs : 0 ≤ s) :
    puS s 6 = decs 6 s.toNat ∧ rr 11 (puS s 6) = true ∧ (gVal (puS s 6) : Int) = s ∧ puE s 6 = 0 ∧ rr 90 (frst (puS s 6)) = true ∧
    (dAsks k = true → puS a 12 = decs 12 a.toNat ∧ rr 4 (puS a 12) = true ∧ (gVal (puS a 12) : Int) = a ∧ puE a 12 = 0 ∧ rr 2 p = true) := by
  obtain ⟨hk, h1, h2, h3, h4⟩ := dR_iff.1 h
  have hs6 : s.toNat < 10 ^ 6 := by omega
  have q := pu_in (k := 6) (by omega) hs hs6
  have g := get_decs (k := 6) (V := s.toNat) (by omega) hs6
  have hd : isD (decs 6 s.toNat) = true := decs_is (by omega)
  have hl := decs_len 6 s.toNat
  have e6 : puS s 6 = decs 6 s.toNat := q.2
  refine ⟨e6, ?_, ?_, q.1, ?_, fun hk2 => ?_⟩
  · rw [e6, rr11, hl]; exact ⟨rfl, hd⟩
  · rw [e6, g.2]; omega
  · rw [e6]; exact frst_rr hd hl
  · obtain ⟨f1, f2, f3, f4⟩ := h3 hk2
    have ha12 : a.toNat < 10 ^ 12 := by omega
    have q := pu_in (k := 12) (by omega) ha ha12
    have g := get_decs (k := 12) (V := a.toNat) (by omega) ha12
    have hd : isD (decs 12 a.toNat) = true := decs_is (by omega)
    have hl := decs_len 12 a.toNat
    have e12 : puS a 12 = decs 12 a.toNat := q.2
    have hp := isD_len (fine_isD f1)
    exact ⟨e12, by rw [e12, rr4, hl]; exact ⟨rfl, hd⟩, by rw [e12, g.2]; omega, q.1, rr2.2 ⟨⟨by omega, f2⟩, fine_isD f1⟩⟩
theorem dIs_fs (k a s : Int) (p r c : List UInt8) : fs (dIs k a s p r c) = fOf k := by
  unfold dIs fOf
  split
  · rfl
  · split <;> rfl
theorem fOf_ups (k : Int) : ups (fOf k) := by
  unfold fOf ups
  split
  · decide
  · split <;> decide
theorem dIs_R {k a s : Int} {p r c : List UInt8} (h : dR k a s p r c = true) (ha : 0 ≤ a) (hs : 0 ≤ s) : mR (tyOf k) (dIs k a s p r c) = true := by
  obtain ⟨hk, h1, h2, h3, h4⟩ := dR_iff.1 h
  obtain ⟨q1, q2, q3, q4, q5, q6⟩ := dR_parts h ha hs
  rw [mR_iff]
  refine ⟨(tyOf_T hk).1, ?_, ?_, by rw [dIs_fs]; exact fOf_ups k⟩
  · unfold dIs
    split
    · simp
    · split <;> simp
  · intro x hx
    unfold dIs at hx
    split at hx
    · rename_i e
      have q6 := q6 (asks_tl e)
      simp only [List.mem_cons, List.not_mem_nil, or_false] at hx
      rcases hx with rfl | rfl | rfl | rfl | rfl
      · exact q6.2.2.2.2
      · exact q6.2.1
      · exact q2
      · exact h2
      · exact q5
    · split at hx
      · rename_i e
        have q6 := q6 e
        simp only [List.mem_cons, List.not_mem_nil, or_false] at hx
        rcases hx with rfl | rfl | rfl | rfl
        · exact q6.2.2.2.2
        · exact q6.2.1
        · exact q2
        · exact h2
      · rename_i e
        have h4 := h4 (by simpa using e)
        simp only [List.mem_cons, List.not_mem_nil, or_false] at hx
        rcases hx with rfl | rfl | rfl
        · exact q2
        · exact h2
        · exact h4.1
/-- Reading a deal. -/
def dE (T : List UInt8) (L : List It) : Int := if mR T L = false then 1 else if ¬fs L = fOf (kdOf T) then 3 else if dAsks (kdOf T) = false then 0 else if lFine (mG L 2) = false then 3 else if tl (kdOf T) = true ∧ ¬mG L 90 = frst (mG L 11) then 11 else 0
def xK (T : List UInt8) (L : List It) : Int := if dE T L = 0 then kdOf T else 0
def xA (T : List UInt8) (L : List It) : Int := if dE T L = 0 then (if dAsks (kdOf T) = true then (gVal (mG L 4) : Int) else 0) else 0
def xS (T : List UInt8) (L : List It) : Int := if dE T L = 0 then (gVal (mG L 11) : Int) else 0
def xP (T : List UInt8) (L : List It) : List UInt8 := if dE T L = 0 then (if dAsks (kdOf T) = true then mG L 2 else []) else []
def xR (T : List UInt8) (L : List It) : List UInt8 := if dE T L = 0 then mG L 37 else []
def xC (T : List UInt8) (L : List It) : List UInt8 := if dE T L = 0 then (if dAsks (kdOf T) = true then [] else mG L 39) else []
theorem dE_bad {T : List UInt8} {L : List It} (h : ¬dE T L = 0) : xK T L = 0 ∧ xA T L = 0 ∧ xS T L = 0 ∧ xP T L = [] ∧ xR T L = [] ∧ xC T L = [] := ⟨if_neg h, if_neg h, if_neg h, if_neg h, if_neg h, if_neg h⟩
theorem d_back {k a s : Int} {p r c : List UInt8} (h : dR k a s p r c = true) (ha : 0 ≤ a) (hs : 0 ≤ s) :
    dE (tyOf k) (dIs k a s p r c) = 0 ∧ xK (tyOf k) (dIs k a s p r c) = k ∧ xA (tyOf k) (dIs k a s p r c) = a ∧ xS (tyOf k) (dIs k a s p r c) = s ∧ xP (tyOf k) (dIs k a s p r c) = p ∧ xR (tyOf k) (dIs k a s p r c) = r ∧ xC (tyOf k) (dIs k a s p r c) = c := by
  obtain ⟨hk, h1, h2, h3, h4⟩ := dR_iff.1 h
  obtain ⟨q1, q2, q3, q4, q5, q6⟩ := dR_parts h ha hs
  have hm := dIs_R h ha hs
  have hT := tyOf_T hk
  have hE : dE (tyOf k) (dIs k a s p r c) = 0 := by
    unfold dE
    rw [hm, if_neg (by simp), hT.2, if_neg (by rw [dIs_fs]; simp)]
    by_cases e : dAsks k = true
    · rw [if_neg (by simp [e])]
      have h3 := h3 e
      have g2 : mG (dIs k a s p r c) 2 = p := by
        unfold dIs
        split
        · rfl
        · first | rfl | (rw [if_pos e]; rfl)
      rw [g2, if_neg (by rw [h3.1]; simp)]
      by_cases t : k = 5 ∨ k = 6
      · rw [if_neg]
        rintro ⟨_, hn⟩
        apply hn
        unfold dIs
        rw [if_pos t]
        rfl
      · rw [if_neg]
        rintro ⟨hn, _⟩
        exact t (tl_iff.1 hn)
    · rw [if_pos (by simpa using e)]
  refine ⟨hE, ?_, ?_, ?_, ?_, ?_, ?_⟩
  · unfold xK; rw [if_pos hE]; exact hT.2
  · unfold xA; rw [if_pos hE, hT.2]
    by_cases e : dAsks k = true
    · rw [if_pos e]
      have : mG (dIs k a s p r c) 4 = puS a 12 := by
        unfold dIs
        split
        · rfl
        · first | rfl | (rw [if_pos e]; rfl)
      rw [this]
      exact (q6 e).2.2.1
    · rw [if_neg e]
      exact (h4 (by simpa using e)).2.2.symm
  · unfold xS; rw [if_pos hE]
    have : mG (dIs k a s p r c) 11 = puS s 6 := by
      unfold dIs
      split
      · rfl
      · split <;> rfl
    rw [this]
    exact q3
  · unfold xP; rw [if_pos hE, hT.2]
    by_cases e : dAsks k = true
    · rw [if_pos e]
      unfold dIs
      split
      · rfl
      · first | rfl | (rw [if_pos e]; rfl)
    · rw [if_neg e]
      exact (h4 (by simpa using e)).2.1.symm
  · unfold xR; rw [if_pos hE]
    unfold dIs
    split
    · rfl
    · split <;> rfl
  · unfold xC; rw [if_pos hE, hT.2]
    by_cases e : dAsks k = true
    · rw [if_pos e]
      exact (h3 e).2.2.2.symm
    · rw [if_neg e]
      unfold dIs
      rw [if_neg (fun t => e (asks_tl t)), if_neg e]
      rfl
theorem fl3_of {L : List It} {a b c : Int} (h : fs L = [a, b, c]) : ∃ x y z, L = [(a, x), (b, y), (c, z)] := by
  match L, h with
  | [(a', x), (b', y), (c', z)], h => simp [fs] at h; obtain ⟨rfl, rfl, rfl⟩ := h; exact ⟨x, y, z, rfl⟩
theorem fl4_of {L : List It} {a b c d : Int} (h : fs L = [a, b, c, d]) : ∃ x y z u, L = [(a, x), (b, y), (c, z), (d, u)] := by
  match L, h with
  | [(a', x), (b', y), (c', z), (d', u)], h => simp [fs] at h; obtain ⟨rfl, rfl, rfl, rfl⟩ := h; exact ⟨x, y, z, u, rfl⟩
theorem fl5_of {L : List It} {a b c d e : Int} (h : fs L = [a, b, c, d, e]) : ∃ x y z u v, L = [(a, x), (b, y), (c, z), (d, u), (e, v)] := by
  match L, h with
  | [(a', x), (b', y), (c', z), (d', u), (e', v)], h => simp [fs] at h; obtain ⟨rfl, rfl, rfl, rfl, rfl⟩ := h; exact ⟨x, y, z, u, v, rfl⟩
/-- A field of digits, read and written. -/
theorem num_back {n : Int} {k : Nat} {x : List UInt8} (hk : 1 ≤ k ∧ k ≤ 18) (hl : (x.length : Int) = k) (hd : isD x = true) : puS (gVal x : Int) k = x ∧ gVal x < 10 ^ k := by
  have hl : x.length = k := by omega
  have g := get_isD hd (by omega)
  have := (get_put g.1).2
  rw [hl] at this
  refine ⟨this, ?_⟩
  rw [g.2.1, ← hl]
  exact g.2.2
theorem d_good {T : List UInt8} {L : List It} (h : dE T L = 0) : dR (xK T L) (xA T L) (xS T L) (xP T L) (xR T L) (xC T L) = true ∧ tyOf (xK T L) = T ∧ dIs (xK T L) (xA T L) (xS T L) (xP T L) (xR T L) (xC T L) = L ∧ 0 ≤ xA T L ∧ 0 ≤ xS T L := by
  have hm : mR T L = true := by
    unfold dE at h
    cases e : mR T L
    · rw [if_pos e] at h; cases h
    · rfl
  have hmi := mR_iff.1 hm
  have hT := kdOf_T hmi.1
  have hf : fs L = fOf (kdOf T) := by
    unfold dE at h
    rw [if_neg (by simp [hm])] at h
    by_cases e : fs L = fOf (kdOf T)
    · exact e
    · rw [if_pos e] at h; cases h
  have hE := h
  unfold dE at h
  rw [if_neg (by simp [hm]), if_neg (by simp [hf])] at h
  have hK : xK T L = kdOf T := if_pos hE
  have hA : xA T L = if dAsks (kdOf T) = true then (gVal (mG L 4) : Int) else 0 := if_pos hE
  have hS : xS T L = (gVal (mG L 11) : Int) := if_pos hE
  have hP : xP T L = if dAsks (kdOf T) = true then mG L 2 else [] := if_pos hE
  have hR : xR T L = mG L 37 := if_pos hE
  have hC : xC T L = if dAsks (kdOf T) = true then [] else mG L 39 := if_pos hE
  rw [hK, hA, hS, hP, hR, hC]
  generalize kdOf T = k at *
  have hr := hmi.2.2.1
  rw [dR_iff]
  by_cases t : k = 5 ∨ k = 6
  · have e := asks_tl t
    rw [fOf, if_pos t] at hf
    obtain ⟨x1, x2, x3, x4, x5, rfl⟩ := fl5_of hf
    have r1 : rr 2 x1 = true := hr _ (show ((2 : Int), x1) ∈ _ by simp)
    have r2 : rr 4 x2 = true := hr _ (show ((4 : Int), x2) ∈ _ by simp)
    have r3 : rr 11 x3 = true := hr _ (show ((11 : Int), x3) ∈ _ by simp)
    have r4 : rr 37 x4 = true := hr _ (show ((37 : Int), x4) ∈ _ by simp)
    have n2 : puS (gVal x2 : Int) 12 = x2 ∧ gVal x2 < 10 ^ 12 := num_back (n := 0) (k := 12) (by omega) (rr4.1 r2).1 (rr4.1 r2).2
    have n3 : puS (gVal x3 : Int) 6 = x3 ∧ gVal x3 < 10 ^ 6 := num_back (n := 0) (k := 6) (by omega) (rr11.1 r3).1 (rr11.1 r3).2
    have m1 : mG [((2 : Int), x1), (4, x2), (11, x3), (37, x4), (90, x5)] 2 = x1 := rfl
    have m2 : mG [((2 : Int), x1), (4, x2), (11, x3), (37, x4), (90, x5)] 4 = x2 := rfl
    have m3 : mG [((2 : Int), x1), (4, x2), (11, x3), (37, x4), (90, x5)] 11 = x3 := rfl
    have m4 : mG [((2 : Int), x1), (4, x2), (11, x3), (37, x4), (90, x5)] 37 = x4 := rfl
    have m5 : mG [((2 : Int), x1), (4, x2), (11, x3), (37, x4), (90, x5)] 90 = x5 := rfl
    rw [m1, m3, m5, if_neg (by simp [e])] at h
    have hfine : lFine x1 = true := by
      cases q : lFine x1
      · rw [if_pos q] at h; cases h
      · rfl
    rw [if_neg (by simp [hfine])] at h
    have h90 : x5 = frst x3 := by
      by_cases q : x5 = frst x3
      · exact q
      · rw [if_pos ⟨tl_iff.2 t, q⟩] at h; cases h
    rw [if_pos e, if_pos e, if_pos e, m1, m2, m3, m4]
    have b3 := n3.2
    have b2 := n2.2
    refine ⟨⟨hT.1, by omega, r4, fun _ => ⟨hfine, (rr2.1 r1).1.2, by omega, rfl⟩, fun q => by rw [e] at q; cases q⟩, hT.2, ?_, by omega, by omega⟩
    unfold dIs
    rw [if_pos t, n2.1, n3.1, h90]
  · by_cases e : dAsks k = true
    · rw [fOf, if_neg t, if_pos e] at hf
      obtain ⟨x1, x2, x3, x4, rfl⟩ := fl4_of hf
      have r1 : rr 2 x1 = true := hr _ (show ((2 : Int), x1) ∈ _ by simp)
      have r2 : rr 4 x2 = true := hr _ (show ((4 : Int), x2) ∈ _ by simp)
      have r3 : rr 11 x3 = true := hr _ (show ((11 : Int), x3) ∈ _ by simp)
      have r4 : rr 37 x4 = true := hr _ (show ((37 : Int), x4) ∈ _ by simp)
      have n2 : puS (gVal x2 : Int) 12 = x2 ∧ gVal x2 < 10 ^ 12 := num_back (n := 0) (k := 12) (by omega) (rr4.1 r2).1 (rr4.1 r2).2
      have n3 : puS (gVal x3 : Int) 6 = x3 ∧ gVal x3 < 10 ^ 6 := num_back (n := 0) (k := 6) (by omega) (rr11.1 r3).1 (rr11.1 r3).2
      have m1 : mG [((2 : Int), x1), (4, x2), (11, x3), (37, x4)] 2 = x1 := rfl
      have m2 : mG [((2 : Int), x1), (4, x2), (11, x3), (37, x4)] 4 = x2 := rfl
      have m3 : mG [((2 : Int), x1), (4, x2), (11, x3), (37, x4)] 11 = x3 := rfl
      have m4 : mG [((2 : Int), x1), (4, x2), (11, x3), (37, x4)] 37 = x4 := rfl
      rw [m1, if_neg (by simp [e])] at h
      have hfine : lFine x1 = true := by
        cases q : lFine x1
        · rw [if_pos q] at h; cases h
        · rfl
      rw [if_pos e, if_pos e, if_pos e, m1, m2, m3, m4]
      have b3 := n3.2
      have b2 := n2.2
      refine ⟨⟨hT.1, by omega, r4, fun _ => ⟨hfine, (rr2.1 r1).1.2, by omega, rfl⟩, fun q => by rw [e] at q; cases q⟩, hT.2, ?_, by omega, by omega⟩
      unfold dIs
      rw [if_neg t, if_pos e, n2.1, n3.1]
    · rw [fOf, if_neg t, if_neg e] at hf
      obtain ⟨x3, x4, x5, rfl⟩ := fl3_of hf
      have r3 : rr 11 x3 = true := hr _ (show ((11 : Int), x3) ∈ _ by simp)
      have r4 : rr 37 x4 = true := hr _ (show ((37 : Int), x4) ∈ _ by simp)
      have r5 : rr 39 x5 = true := hr _ (show ((39 : Int), x5) ∈ _ by simp)
      have n3 : puS (gVal x3 : Int) 6 = x3 ∧ gVal x3 < 10 ^ 6 := num_back (n := 0) (k := 6) (by omega) (rr11.1 r3).1 (rr11.1 r3).2
      have m3 : mG [((11 : Int), x3), (37, x4), (39, x5)] 11 = x3 := rfl
      have m4 : mG [((11 : Int), x3), (37, x4), (39, x5)] 37 = x4 := rfl
      have m5 : mG [((11 : Int), x3), (37, x4), (39, x5)] 39 = x5 := rfl
      rw [if_neg e, if_neg e, if_neg e, m3, m4, m5]
      have b3 := n3.2
      refine ⟨⟨hT.1, by omega, r4, fun q => absurd q e, fun _ => ⟨r5, rfl, rfl⟩⟩, hT.2, ?_, by omega, by omega⟩
      unfold dIs
      rw [if_neg t, if_neg e, n3.1]
end Go.Vd

/- Deals: the functions that write. -/
set_option linter.unusedVariables false
set_option linter.unusedSimpArgs false
set_option maxRecDepth 100000
set_option maxHeartbeats 8000000
namespace Go.Vd
open Go.Proofs
noncomputable def c_oTells : Ct := fun A args => match args with
  | [.int .i64 k] => some (none, .bool (A.tb fun _ => decide (k = 5) || decide (k = 6)))
  | _ => none
noncomputable def c_oAsks : Ct := fun A args => match args with
  | [.int .i64 k] => some (none, .bool (A.tb fun _ => dAsks k))
  | _ => none
noncomputable def c_oRight : Ct := fun A args => match args with
  | [.agg [.int .i64 k, .str p, .int .u64 a, .int .u32 s, .str r, .str c]] => some (some (A.tp fun _ => p.length ≤ 100000 ∧ r.length ≤ 1000000 ∧ c.length ≤ 1000000), .bool (A.tb fun _ => dR k a s p r c))
  | _ => none
noncomputable def gO0 : Ar → Pu := addC 100 c_oTells (addC 38 c_oAsks (addC 37 c_oRight (gM4)))
theorem gO0_ok : PuOk Tryd.prog gl0 (gO0 std) := by
  refine addC_ok (addC_ok (addC_ok (gM4_ok) ⟨_, Tryd.func37, rfl, by decide⟩ ?_) ⟨_, Tryd.func38, rfl, by decide⟩ ?_) ⟨_, Tryd.func100, rfl, by decide⟩ ?_
  · intro args p r h hp
    unfold c_oRight at h
    split at h <;> cases h
    exact good_dRight _ _ _ _ _ _ hp.1 hp.2.1 hp.2.2
  · intro args p r h hp
    unfold c_oAsks at h
    split at h <;> cases h
    exact good_dAsks _
  · intro args p r h hp
    unfold c_oTells at h
    split at h <;> cases h
    exact good_dTells _
theorem kd_at {T : List UInt8} {i : Nat} (hi : i < 7) (h : typesL.getD i [] = T) : kdOf T = (i : Int) + 1 := by
  subst h
  have h : ∀ i : Fin 7, kdOf (typesL.getD i.val []) = (i.val : Int) + 1 := by decide
  exact h ⟨i, hi⟩
theorem kd_none {T : List UInt8} (h : ∀ j, j < 7 → ¬typesL.getD j [] = T) : kdOf T = 0 := by
  unfold kdOf
  rw [if_neg (fun e => h 0 (by omega) e.symm), if_neg (fun e => h 1 (by omega) e.symm), if_neg (fun e => h 2 (by omega) e.symm), if_neg (fun e => h 3 (by omega) e.symm), if_neg (fun e => h 4 (by omega) e.symm), if_neg (fun e => h 5 (by omega) e.symm), if_neg (fun e => h 6 (by omega) e.symm)]
theorem ty_at {i : Nat} (hi : i < 7) : getAt [SV.str [48, 49, 48, 48], SV.str [48, 49, 49, 48], SV.str [48, 52, 48, 48], SV.str [48, 52, 49, 48], SV.str [48, 52, 50, 48], SV.str [48, 52, 50, 49], SV.str [48, 52, 51, 48]] i = .str (typesL.getD i []) := by
  rcases (show i = 0 ∨ i = 1 ∨ i = 2 ∨ i = 3 ∨ i = 4 ∨ i = 5 ∨ i = 6 by omega) with rfl | rfl | rfl | rfl | rfl | rfl | rfl <;> rfl
theorem good_kdOf (T : List UInt8) : GoodP Tryd.prog gl0 97 [.str T] (.int .i64 (std.ti fun _ => kdOf T)) := by
  refine fn_sound' (T := seatT) (G := noC) (X := noX) seatT_ok noC_ok noX_ok noI_ok mixed Tryd.func97 (.one) (fun A => [.str T]) (fun A => .int .i64 (A.ti fun _ => kdOf T)) fun A hA => ?_
  cbv
  repeat' (first | with_reducible exact True.intro | with_reducible exact dr_ok hA (by kernel_rfl) | with_reducible refine And.intro ?_ ?_ | (intro hc; cbv))
  refine ⟨⟨{i : Nat // i ≤ 7 ∧ ∀ j, j < i → ¬typesL.getD j [] = T}, fun b i => [(6, .int .i64 (i.1 : Nat))], fun b i => [], fun i => 7 - i.1, true⟩, ⟨⟨0, by omega, fun j hj => absurd hj (by omega)⟩, ?_⟩, ?_⟩
  · cbv
    subst hA
    simp [-List.getD_eq_getElem?_getD, std_add, std_sub, std_mul, std_quo, std_rem, std_band, std_bor, std_bxor, std_shl, std_shr, std_eq, std_ne, std_lt, std_le, std_conv, std_not, std_beq, std_bne, std_ite, std_want, std_and2, std_sadd, std_seq, std_sne, std_slt, std_sle, std_sgt, std_sge, std_slen, std_sget, std_scut, std_ofNat, std_toNat, std_nsub, std_nadd, std_lenOf, std_nz, std_nneg, std_inb, std_upto, std_slt63, std_grow, std_imp, std_impN, std_tr, std_tb, std_ti, std_ts, std_tn, std_tp, std_nmin, std_makes, std_room, std_zeros, std_nilq, std_notq, std_eqi, std_eqn, std_eqb, std_eqs, std_eqv, std_cat, std_lst, std_rset, std_rcopy, std_shift, std_eqr, std_strOf, std_bytesOf, std_isB, std_zOf, zOf_int, std_isI, isI_int, std_getL, std_nmul, std_sOf, sOf_str, std_isS, isS_str]
  · rintro ⟨i, hi, h0⟩
    cbv
    repeat' (first | with_reducible exact True.intro | with_reducible exact dr_ok hA (by kernel_rfl) | with_reducible refine And.intro ?_ ?_ | (intro hc; cbv))
    all_goals first
      | (fail_if_success (refine Exists.intro ?_ ?_)
         have hlt : i < 7 := by (clear h0; subst hA; simp [-List.getD_eq_getElem?_getD, std_add, std_sub, std_mul, std_quo, std_rem, std_band, std_bor, std_bxor, std_shl, std_shr, std_eq, std_ne, std_lt, std_le, std_conv, std_not, std_beq, std_bne, std_ite, std_want, std_and2, std_sadd, std_seq, std_sne, std_slt, std_sle, std_sgt, std_sge, std_slen, std_sget, std_scut, std_ofNat, std_toNat, std_nsub, std_nadd, std_lenOf, std_nz, std_nneg, std_inb, std_upto, std_slt63, std_grow, std_imp, std_impN, std_tr, std_tb, std_ti, std_ts, std_tn, std_tp, std_nmin, std_makes, std_room, std_zeros, std_nilq, std_notq, std_eqi, std_eqn, std_eqb, std_eqs, std_eqv, std_cat, std_lst, std_rset, std_rcopy, std_shift, std_eqr, std_strOf, std_bytesOf, std_isB, std_zOf, zOf_int, std_isI, isI_int, std_getL, std_nmul, std_sOf, sOf_str, std_isS, isS_str] at *; omega)
         subst hA
         simp [-List.getD_eq_getElem?_getD, std_add, std_sub, std_mul, std_quo, std_rem, std_band, std_bor, std_bxor, std_shl, std_shr, std_eq, std_ne, std_lt, std_le, std_conv, std_not, std_beq, std_bne, std_ite, std_want, std_and2, std_sadd, std_seq, std_sne, std_slt, std_sle, std_sgt, std_sge, std_slen, std_sget, std_scut, std_ofNat, std_toNat, std_nsub, std_nadd, std_lenOf, std_nz, std_nneg, std_inb, std_upto, std_slt63, std_grow, std_imp, std_impN, std_tr, std_tb, std_ti, std_ts, std_tn, std_tp, std_nmin, std_makes, std_room, std_zeros, std_nilq, std_notq, std_eqi, std_eqn, std_eqb, std_eqs, std_eqv, std_cat, std_lst, std_rset, std_rcopy, std_shift, std_eqr, std_strOf, std_bytesOf, std_isB, std_zOf, zOf_int, std_isI, isI_int, std_getL, std_nmul, std_sOf, sOf_str, std_isS, isS_str, ty_at hlt] at *
         first
           | done
           | omega
           | (rw [kd_at hlt hc, w64 (by omega)]; omega)
           | trace_state)
      | (fail_if_success (refine Exists.intro ?_ ?_)
         have hie : i = 7 := by (clear h0; subst hA; simp [-List.getD_eq_getElem?_getD, std_add, std_sub, std_mul, std_quo, std_rem, std_band, std_bor, std_bxor, std_shl, std_shr, std_eq, std_ne, std_lt, std_le, std_conv, std_not, std_beq, std_bne, std_ite, std_want, std_and2, std_sadd, std_seq, std_sne, std_slt, std_sle, std_sgt, std_sge, std_slen, std_sget, std_scut, std_ofNat, std_toNat, std_nsub, std_nadd, std_lenOf, std_nz, std_nneg, std_inb, std_upto, std_slt63, std_grow, std_imp, std_impN, std_tr, std_tb, std_ti, std_ts, std_tn, std_tp, std_nmin, std_makes, std_room, std_zeros, std_nilq, std_notq, std_eqi, std_eqn, std_eqb, std_eqs, std_eqv, std_cat, std_lst, std_rset, std_rcopy, std_shift, std_eqr, std_strOf, std_bytesOf, std_isB, std_zOf, zOf_int, std_isI, isI_int, std_getL, std_nmul, std_sOf, sOf_str, std_isS, isS_str] at *; omega)
         have := kd_none (T := T) (fun j hj => h0 j (by omega))
         subst hA
         simp only [std_add, std_sub, std_mul, std_quo, std_rem, std_band, std_bor, std_bxor, std_shl, std_shr, std_eq, std_ne, std_lt, std_le, std_conv, std_not, std_beq, std_bne, std_ite, std_want, std_and2, std_sadd, std_seq, std_sne, std_slt, std_sle, std_sgt, std_sge, std_slen, std_sget, std_scut, std_ofNat, std_toNat, std_nsub, std_nadd, std_lenOf, std_nz, std_nneg, std_inb, std_upto, std_slt63, std_grow, std_imp, std_impN, std_tr, std_tb, std_ti, std_ts, std_tn, std_tp, std_nmin, std_makes, std_room, std_zeros, std_nilq, std_notq, std_eqi, std_eqn, std_eqb, std_eqs, std_eqv, std_cat, std_lst, std_rset, std_rcopy, std_shift, std_eqr, std_strOf, std_bytesOf, std_isB, std_zOf, zOf_int, std_isI, isI_int, std_getL, std_nmul, std_sOf, sOf_str, std_isS, isS_str, this])
      | (have hlt : i < 7 := by (clear h0; subst hA; simp [-List.getD_eq_getElem?_getD, std_add, std_sub, std_mul, std_quo, std_rem, std_band, std_bor, std_bxor, std_shl, std_shr, std_eq, std_ne, std_lt, std_le, std_conv, std_not, std_beq, std_bne, std_ite, std_want, std_and2, std_sadd, std_seq, std_sne, std_slt, std_sle, std_sgt, std_sge, std_slen, std_sget, std_scut, std_ofNat, std_toNat, std_nsub, std_nadd, std_lenOf, std_nz, std_nneg, std_inb, std_upto, std_slt63, std_grow, std_imp, std_impN, std_tr, std_tb, std_ti, std_ts, std_tn, std_tp, std_nmin, std_makes, std_room, std_zeros, std_nilq, std_notq, std_eqi, std_eqn, std_eqb, std_eqs, std_eqv, std_cat, std_lst, std_rset, std_rcopy, std_shift, std_eqr, std_strOf, std_bytesOf, std_isB, std_zOf, zOf_int, std_isI, isI_int, std_getL, std_nmul, std_sOf, sOf_str, std_isS, isS_str] at *; omega)
         have hne : ¬typesL.getD i [] = T := by (clear h0; subst hA; simp [-List.getD_eq_getElem?_getD, std_add, std_sub, std_mul, std_quo, std_rem, std_band, std_bor, std_bxor, std_shl, std_shr, std_eq, std_ne, std_lt, std_le, std_conv, std_not, std_beq, std_bne, std_ite, std_want, std_and2, std_sadd, std_seq, std_sne, std_slt, std_sle, std_sgt, std_sge, std_slen, std_sget, std_scut, std_ofNat, std_toNat, std_nsub, std_nadd, std_lenOf, std_nz, std_nneg, std_inb, std_upto, std_slt63, std_grow, std_imp, std_impN, std_tr, std_tb, std_ti, std_ts, std_tn, std_tp, std_nmin, std_makes, std_room, std_zeros, std_nilq, std_notq, std_eqi, std_eqn, std_eqb, std_eqs, std_eqv, std_cat, std_lst, std_rset, std_rcopy, std_shift, std_eqr, std_strOf, std_bytesOf, std_isB, std_zOf, zOf_int, std_isI, isI_int, std_getL, std_nmul, std_sOf, sOf_str, std_isS, isS_str, ty_at hlt] at *; exact hc)
         refine ⟨⟨i + 1, by omega, fun j hj => ?_⟩, ?_, show 7 - (i + 1) < 7 - i by omega⟩
         · by_cases e : j = i
           · subst e; exact hne
           · exact h0 j (by omega)
         cbv
         subst hA
         simp [std_add, std_sub, std_mul, std_quo, std_rem, std_band, std_bor, std_bxor, std_shl, std_shr, std_eq, std_ne, std_lt, std_le, std_conv, std_not, std_beq, std_bne, std_ite, std_want, std_and2, std_sadd, std_seq, std_sne, std_slt, std_sle, std_sgt, std_sge, std_slen, std_sget, std_scut, std_ofNat, std_toNat, std_nsub, std_nadd, std_lenOf, std_nz, std_nneg, std_inb, std_upto, std_slt63, std_grow, std_imp, std_impN, std_tr, std_tb, std_ti, std_ts, std_tn, std_tp, std_nmin, std_makes, std_room, std_zeros, std_nilq, std_notq, std_eqi, std_eqn, std_eqb, std_eqs, std_eqv, std_cat, std_lst, std_rset, std_rcopy, std_shift, std_eqr, std_strOf, std_bytesOf, std_isB, std_zOf, zOf_int, std_isI, isI_int, std_getL, std_nmul, std_sOf, sOf_str, std_isS, isS_str]
         exact (w64 (by omega)).trans (by omega))
      | trace_state
theorem fo_1 {k : Int} (h : k = 5 ∨ k = 6) : fOf k = [2, 4, 11, 37, 90] := if_pos h
theorem fo_2 {k : Int} (h : ¬(k = 5 ∨ k = 6)) (h1 : dAsks k = true) : fOf k = [2, 4, 11, 37] := by unfold fOf; rw [if_neg h, if_pos h1]
theorem fo_3 {k : Int} (h : ¬(k = 5 ∨ k = 6)) (h1 : dAsks k = false) : fOf k = [11, 37, 39] := by unfold fOf; rw [if_neg h, if_neg (by rw [h1]; simp)]
theorem z_rep (L : List Int) : Reps eZ 0 1 L.length (lstS (L.map fun z => [SV.int .i64 z])) L := by
  have h := Reps.lst (enc := eZ) (d := 0) (k := 1) (all2_map L)
  rw [List.length_map] at h
  exact h
theorem good_fieldsOf (k : Int) : GoodP Tryd.prog gl0 92 [.int .i64 k] (rowS eZ 0 1 std fun _ => fOf k) := by
  refine fn_sound' (T := seatT) (G := gO0) (X := noX) seatT_ok gO0_ok noX_ok noI_ok mixed Tryd.func92 (.none) (fun A => [.int .i64 k]) (fun A => rowS eZ 0 1 A fun _ => fOf k) fun A hA => ?_
  cbv
  repeat' (first | with_reducible exact True.intro | with_reducible exact dr_ok hA (by kernel_rfl) | with_reducible refine And.intro ?_ ?_ | (intro hc; cbv))
  all_goals (subst hA; simp [std_add, std_sub, std_mul, std_quo, std_rem, std_band, std_bor, std_bxor, std_shl, std_shr, std_eq, std_ne, std_lt, std_le, std_conv, std_not, std_beq, std_bne, std_ite, std_want, std_and2, std_sadd, std_seq, std_sne, std_slt, std_sle, std_sgt, std_sge, std_slen, std_sget, std_scut, std_ofNat, std_toNat, std_nsub, std_nadd, std_lenOf, std_nz, std_nneg, std_inb, std_upto, std_slt63, std_grow, std_imp, std_impN, std_tr, std_tb, std_ti, std_ts, std_tn, std_tp, std_nmin, std_makes, std_room, std_zeros, std_nilq, std_notq, std_eqi, std_eqn, std_eqb, std_eqs, std_eqv, std_cat, std_lst, std_rset, std_rcopy, std_shift, std_eqr, std_strOf, std_bytesOf, std_isB, std_zOf, zOf_int, std_isI, isI_int, std_getL, std_nmul, std_sOf, sOf_str, std_isS, isS_str] at *)
  all_goals first
    | (rw [fo_1 (by omega)]; rfl)
    | (rw [fo_1 (by omega)]; exact (z_rep [2, 4, 11, 37, 90]).eqr)
    | (rw [fo_2 (by omega) (by assumption)]; rfl)
    | (rw [fo_2 (by omega) (by assumption)]; exact (z_rep [2, 4, 11, 37]).eqr)
    | (rw [fo_3 (by omega) (by assumption)]; rfl)
    | (rw [fo_3 (by omega) (by assumption)]; exact (z_rep [11, 37, 39]).eqr)
    | trace_state
theorem good_digitsOf (v n : Int) (hv : 0 ≤ v ∧ v < 18446744073709551616) (hn : -9223372036854775808 ≤ n ∧ n < 9223372036854775808) : GoodP Tryd.prog gl0 149 [.int .u64 v, .int .i64 n] (.str (std.ts fun _ => puS v n)) := by
  refine fn_sound' (T := seatT) (G := gO0) (X := noX) seatT_ok gO0_ok noX_ok noI_ok mixed Tryd.func149 (.one) (fun A => [.int .u64 v, .int .i64 n]) (fun A => .str (A.ts fun _ => puS v n)) fun A hA => ?_
  cbv
  repeat' (first | with_reducible exact True.intro | with_reducible exact dr_ok hA (by kernel_rfl) | with_reducible refine And.intro ?_ ?_ | (intro hc; cbv))
  all_goals (subst hA; simp [std_add, std_sub, std_mul, std_quo, std_rem, std_band, std_bor, std_bxor, std_shl, std_shr, std_eq, std_ne, std_lt, std_le, std_conv, std_not, std_beq, std_bne, std_ite, std_want, std_and2, std_sadd, std_seq, std_sne, std_slt, std_sle, std_sgt, std_sge, std_slen, std_sget, std_scut, std_ofNat, std_toNat, std_nsub, std_nadd, std_lenOf, std_nz, std_nneg, std_inb, std_upto, std_slt63, std_grow, std_imp, std_impN, std_tr, std_tb, std_ti, std_ts, std_tn, std_tp, std_nmin, std_makes, std_room, std_zeros, std_nilq, std_notq, std_eqi, std_eqn, std_eqb, std_eqs, std_eqv, std_cat, std_lst, std_rset, std_rcopy, std_shift, std_eqr, std_strOf, std_bytesOf, std_isB, std_zOf, zOf_int, std_isI, isI_int, std_getL, std_nmul, std_sOf, sOf_str, std_isS, isS_str] at *)
  all_goals first
    | omega
    | trace_state
theorem rep32 : Lib.repeatL [48] 32 = List.replicate 32 48 := repl_eq 32
theorem good_first (x : List UInt8) (hx : x.length ≤ 1000) : GoodP Tryd.prog gl0 150 [.str x] (.str (std.ts fun _ => frst x)) := by
  refine fn_sound' (T := seatT) (G := gO0) (X := noX) seatT_ok gO0_ok noX_ok noI_ok mixed Tryd.func150 (.one) (fun A => [.str x]) (fun A => .str (A.ts fun _ => frst x)) fun A hA => ?_
  cbv
  repeat' (first | with_reducible exact True.intro | with_reducible exact dr_ok hA (by kernel_rfl) | with_reducible refine And.intro ?_ ?_ | (intro hc; cbv))
  all_goals (subst hA; simp [std_add, std_sub, std_mul, std_quo, std_rem, std_band, std_bor, std_bxor, std_shl, std_shr, std_eq, std_ne, std_lt, std_le, std_conv, std_not, std_beq, std_bne, std_ite, std_want, std_and2, std_sadd, std_seq, std_sne, std_slt, std_sle, std_sgt, std_sge, std_slen, std_sget, std_scut, std_ofNat, std_toNat, std_nsub, std_nadd, std_lenOf, std_nz, std_nneg, std_inb, std_upto, std_slt63, std_grow, std_imp, std_impN, std_tr, std_tb, std_ti, std_ts, std_tn, std_tp, std_nmin, std_makes, std_room, std_zeros, std_nilq, std_notq, std_eqi, std_eqn, std_eqb, std_eqs, std_eqv, std_cat, std_lst, std_rset, std_rcopy, std_shift, std_eqr, std_strOf, std_bytesOf, std_isB, std_zOf, zOf_int, std_isI, isI_int, std_getL, std_nmul, std_sOf, sOf_str, std_isS, isS_str, rep32] at *)
  all_goals first
    | omega
    | (simp [frst]; done)
    | trace_state
noncomputable def c_fieldsOf : Ct := fun A args => match args with
  | [.int .i64 k] => some (none, rowS eZ 0 1 A fun _ => fOf k)
  | _ => none
noncomputable def c_kdOf : Ct := fun A args => match args with
  | [.str T] => some (none, .int .i64 (A.ti fun _ => kdOf T))
  | _ => none
noncomputable def c_digitsOf : Ct := fun A args => match args with
  | [.int .u64 v, .int .i64 n] => some (some (A.tp fun _ => (0 ≤ v ∧ v < 18446744073709551616) ∧ (-9223372036854775808 ≤ n ∧ n < 9223372036854775808)), .str (A.ts fun _ => puS v n))
  | _ => none
noncomputable def c_first : Ct := fun A args => match args with
  | [.str x] => some (some (A.tp fun _ => x.length ≤ 1000), .str (A.ts fun _ => frst x))
  | _ => none
noncomputable def gO1 : Ar → Pu := addC 92 c_fieldsOf (addC 97 c_kdOf (addC 149 c_digitsOf (addC 150 c_first (gO0))))
theorem gO1_ok : PuOk Tryd.prog gl0 (gO1 std) := by
  refine addC_ok (addC_ok (addC_ok (addC_ok (gO0_ok) ⟨_, Tryd.func150, rfl, by decide⟩ ?_) ⟨_, Tryd.func149, rfl, by decide⟩ ?_) ⟨_, Tryd.func97, rfl, by decide⟩ ?_) ⟨_, Tryd.func92, rfl, by decide⟩ ?_
  · intro args p r h hp
    unfold c_first at h
    split at h <;> cases h
    exact good_first _ hp
  · intro args p r h hp
    unfold c_digitsOf at h
    split at h <;> cases h
    exact good_digitsOf _ _ hp.1 hp.2
  · intro args p r h hp
    unfold c_kdOf at h
    split at h <;> cases h
    exact good_kdOf _
  · intro args p r h hp
    unfold c_fieldsOf at h
    split at h <;> cases h
    exact good_fieldsOf _
def vOf (a s : Int) (p r c : List UInt8) (f : Int) : List UInt8 := if f = 2 then p else if f = 4 then puS a 12 else if f = 11 then puS s 6 else if f = 37 then r else if f = 39 then c else frst (puS s 6)
theorem dIs_map (k a s : Int) (p r c : List UInt8) : dIs k a s p r c = (fOf k).map fun f => (f, vOf a s p r c f) := by
  unfold dIs fOf
  split
  · rfl
  · split <;> rfl
theorem u64_32 {s : Int} (hs : 0 ≤ s ∧ s < 4294967296) : IntKind.u64.wrap s = s := wU64' (by omega)
theorem good_valueOf (k a s f : Int) (p r c : List UInt8) (ha : 0 ≤ a ∧ a < 18446744073709551616) (hs : 0 ≤ s ∧ s < 4294967296) : GoodP Tryd.prog gl0 93 [.agg [.int .i64 k, .str p, .int .u64 a, .int .u32 s, .str r, .str c], .int .i64 f] (.str (std.ts fun _ => vOf a s p r c f)) := by
  refine fn_sound' (T := seatT) (G := gO1) (X := noX) seatT_ok gO1_ok noX_ok noI_ok mixed Tryd.func93 (.one) (fun A => [.agg [.int .i64 k, .str p, .int .u64 a, .int .u32 s, .str r, .str c], .int .i64 f]) (fun A => .str (A.ts fun _ => vOf a s p r c f)) fun A hA => ?_
  cbv
  repeat' (first | with_reducible exact True.intro | with_reducible exact dr_ok hA (by kernel_rfl) | with_reducible refine And.intro ?_ ?_ | (intro hc; cbv))
  all_goals (have h6 := puS_len s 6)
  all_goals (subst hA; simp [std_add, std_sub, std_mul, std_quo, std_rem, std_band, std_bor, std_bxor, std_shl, std_shr, std_eq, std_ne, std_lt, std_le, std_conv, std_not, std_beq, std_bne, std_ite, std_want, std_and2, std_sadd, std_seq, std_sne, std_slt, std_sle, std_sgt, std_sge, std_slen, std_sget, std_scut, std_ofNat, std_toNat, std_nsub, std_nadd, std_lenOf, std_nz, std_nneg, std_inb, std_upto, std_slt63, std_grow, std_imp, std_impN, std_tr, std_tb, std_ti, std_ts, std_tn, std_tp, std_nmin, std_makes, std_room, std_zeros, std_nilq, std_notq, std_eqi, std_eqn, std_eqb, std_eqs, std_eqv, std_cat, std_lst, std_rset, std_rcopy, std_shift, std_eqr, std_strOf, std_bytesOf, std_isB, std_zOf, zOf_int, std_isI, isI_int, std_getL, std_nmul, std_sOf, sOf_str, std_isS, isS_str, u64_32 hs] at *)
  all_goals first
    | omega
    | (unfold vOf; simp [*]; done)
    | trace_state
noncomputable def c_valueOf : Ct := fun A args => match args with
  | [.agg [.int .i64 k, .str p, .int .u64 a, .int .u32 s, .str r, .str c], .int .i64 f] => some (some (A.tp fun _ => (0 ≤ a ∧ a < 18446744073709551616) ∧ (0 ≤ s ∧ s < 4294967296)), .str (A.ts fun _ => vOf a s p r c f))
  | _ => none
noncomputable def gO2 : Ar → Pu := addC 93 c_valueOf (gO1)
theorem gO2_ok : PuOk Tryd.prog gl0 (gO2 std) := by
  refine addC_ok (gO1_ok) ⟨_, Tryd.func93, rfl, by decide⟩ ?_
  · intro args p r h hp
    unfold c_valueOf at h
    split at h <;> cases h
    exact good_valueOf _ _ _ _ _ _ _ hp.1 hp.2
theorem dIs_len (k a s : Int) (p r c : List UInt8) : (dIs k a s p r c).length = (fOf k).length := by rw [dIs_map, List.length_map]
theorem fOf_len (k : Int) : 3 ≤ (fOf k).length ∧ (fOf k).length ≤ 5 := by
  unfold fOf
  split
  · decide
  · split <;> decide
theorem dIs_take {k a s : Int} {p r c : List UInt8} {i : Nat} (h : i < (fOf k).length) : (dIs k a s p r c).take (i + 1) = (dIs k a s p r c).take i ++ [((fOf k).getD i 0, vOf a s p r c ((fOf k).getD i 0))] := by
  rw [dIs_map, ← List.map_take, ← List.map_take, ← take_snoc (d := 0) h, List.map_append]
  rfl
def dWT (k a s : Int) (p r c : List UInt8) : List UInt8 := if dR k a s p r c = true then tyOf k else []
def dWL (k a s : Int) (p r c : List UInt8) : List It := if dR k a s p r c = true then dIs k a s p r c else []
def dWe (k a s : Int) (p r c : List UInt8) : Int := if dR k a s p r c = true then 0 else 1
theorem dw_no {k a s : Int} {p r c : List UInt8} (h : dR k a s p r c = false) : dWT k a s p r c = [] ∧ dWL k a s p r c = [] ∧ dWe k a s p r c = 1 := by unfold dWT dWL dWe; rw [h]; exact ⟨rfl, rfl, rfl⟩
theorem dw_yes {k a s : Int} {p r c : List UInt8} (h : dR k a s p r c = true) : dWT k a s p r c = tyOf k ∧ dWL k a s p r c = dIs k a s p r c ∧ dWe k a s p r c = 0 := by unfold dWT dWL dWe; rw [h]; exact ⟨rfl, rfl, rfl⟩
theorem good_dWrite (k a s : Int) (p r c : List UInt8) (ha : 0 ≤ a ∧ a < 18446744073709551616) (hs : 0 ≤ s ∧ s < 4294967296) (hp : p.length ≤ 100000) (hr : r.length ≤ 1000000) (hcc : c.length ≤ 1000000) : GoodP Tryd.prog gl0 33 [.agg [.int .i64 k, .str p, .int .u64 a, .int .u32 s, .str r, .str c]] (.tup [.agg [.str (std.ts fun _ => dWT k a s p r c), rowS eI (0, []) 2 std fun _ => dWL k a s p r c], .int .i64 (std.ti fun _ => dWe k a s p r c)]) := by
  refine fn_sound' (T := seatT) (G := gO2) (X := noX) seatT_ok gO2_ok noX_ok noI_ok mixed Tryd.func33 (.none) (fun A => [.agg [.int .i64 k, .str p, .int .u64 a, .int .u32 s, .str r, .str c]]) (fun A => .tup [.agg [.str (A.ts fun _ => dWT k a s p r c), rowS eI (0, []) 2 A fun _ => dWL k a s p r c], .int .i64 (A.ti fun _ => dWe k a s p r c)]) fun A hA => ?_
  cbv
  repeat' (first | with_reducible exact True.intro | with_reducible exact dr_ok hA (by kernel_rfl) | with_reducible refine And.intro ?_ ?_ | (intro hc; cbv))
  all_goals first
    | (fail_if_success (refine Exists.intro ?_ ?_)
       subst hA
       simp [-List.getD_eq_getElem?_getD, std_add, std_sub, std_mul, std_quo, std_rem, std_band, std_bor, std_bxor, std_shl, std_shr, std_eq, std_ne, std_lt, std_le, std_conv, std_not, std_beq, std_bne, std_ite, std_want, std_and2, std_sadd, std_seq, std_sne, std_slt, std_sle, std_sgt, std_sge, std_slen, std_sget, std_scut, std_ofNat, std_toNat, std_nsub, std_nadd, std_lenOf, std_nz, std_nneg, std_inb, std_upto, std_slt63, std_grow, std_imp, std_impN, std_tr, std_tb, std_ti, std_ts, std_tn, std_tp, std_nmin, std_makes, std_room, std_zeros, std_nilq, std_notq, std_eqi, std_eqn, std_eqb, std_eqs, std_eqv, std_cat, std_lst, std_rset, std_rcopy, std_shift, std_eqr, std_strOf, std_bytesOf, std_isB, std_zOf, zOf_int, std_isI, isI_int, std_getL, std_nmul, std_sOf, sOf_str, std_isS, isS_str] at *
       first
         | done
         | exact ⟨hp, hr, hcc⟩
         | (rw [(dw_no hc).1]; done)
         | (rw [(dw_no hc).2.1]; done)
         | (rw [(dw_no hc).2.1]; rfl)
         | (rw [(dw_no hc).2.2]; done)
         | (have hk := (dR_iff.1 hc).1
            rw [w64 (by omega)]
            omega)
         | trace_state)
    | skip
  have hd : dR k a s p r c = true := by
    subst hA
    simpa [std_add, std_sub, std_mul, std_quo, std_rem, std_band, std_bor, std_bxor, std_shl, std_shr, std_eq, std_ne, std_lt, std_le, std_conv, std_not, std_beq, std_bne, std_ite, std_want, std_and2, std_sadd, std_seq, std_sne, std_slt, std_sle, std_sgt, std_sge, std_slen, std_sget, std_scut, std_ofNat, std_toNat, std_nsub, std_nadd, std_lenOf, std_nz, std_nneg, std_inb, std_upto, std_slt63, std_grow, std_imp, std_impN, std_tr, std_tb, std_ti, std_ts, std_tn, std_tp, std_nmin, std_makes, std_room, std_zeros, std_nilq, std_notq, std_eqi, std_eqn, std_eqb, std_eqs, std_eqv, std_cat, std_lst, std_rset, std_rcopy, std_shift, std_eqr, std_strOf, std_bytesOf, std_isB, std_zOf, zOf_int, std_isI, isI_int, std_getL, std_nmul, std_sOf, sOf_str, std_isS, isS_str] using hc
  have hk := (dR_iff.1 hd).1
  have hw := dw_yes hd
  clear hc
  refine ⟨⟨{q : Nat × List It // q.1 ≤ (fOf k).length ∧ q.2 = (dIs k a s p r c).take q.1}, fun b q => [(21, .int .i64 (q.1.1 : Nat))], fun b q => [(b, .row 47 2 (A.tn fun _ => q.1.2.length) (rowF eI (0, []) A fun _ => q.1.2)), (12, .box 32 [.str (A.ts fun _ => tyOf k), .own b])], fun q => (fOf k).length - q.1.1, true⟩, ⟨⟨(0, []), by simp⟩, ?_⟩, ?_⟩
  · cbv
    subst hA
    simp only [std_add, std_sub, std_mul, std_quo, std_rem, std_band, std_bor, std_bxor, std_shl, std_shr, std_eq, std_ne, std_lt, std_le, std_conv, std_not, std_beq, std_bne, std_ite, std_want, std_and2, std_sadd, std_seq, std_sne, std_slt, std_sle, std_sgt, std_sge, std_slen, std_sget, std_scut, std_ofNat, std_toNat, std_nsub, std_nadd, std_lenOf, std_nz, std_nneg, std_inb, std_upto, std_slt63, std_grow, std_imp, std_impN, std_tr, std_tb, std_ti, std_ts, std_tn, std_tp, std_nmin, std_makes, std_room, std_zeros, std_nilq, std_notq, std_eqi, std_eqn, std_eqb, std_eqs, std_eqv, std_cat, std_lst, std_rset, std_rcopy, std_shift, std_eqr, std_strOf, std_bytesOf, std_isB, std_zOf, zOf_int, std_isI, isI_int, std_getL, std_nmul, std_sOf, sOf_str, std_isS, isS_str]
    rcases (show k = 1 ∨ k = 2 ∨ k = 3 ∨ k = 4 ∨ k = 5 ∨ k = 6 ∨ k = 7 by omega) with rfl | rfl | rfl | rfl | rfl | rfl | rfl
    all_goals first
      | decide
      | (simp [tyOf, std_add, std_sub, std_mul, std_quo, std_rem, std_band, std_bor, std_bxor, std_shl, std_shr, std_eq, std_ne, std_lt, std_le, std_conv, std_not, std_beq, std_bne, std_ite, std_want, std_and2, std_sadd, std_seq, std_sne, std_slt, std_sle, std_sgt, std_sge, std_slen, std_sget, std_scut, std_ofNat, std_toNat, std_nsub, std_nadd, std_lenOf, std_nz, std_nneg, std_inb, std_upto, std_slt63, std_grow, std_imp, std_impN, std_tr, std_tb, std_ti, std_ts, std_tn, std_tp, std_nmin, std_makes, std_room, std_zeros, std_nilq, std_notq, std_eqi, std_eqn, std_eqb, std_eqs, std_eqv, std_cat, std_lst, std_rset, std_rcopy, std_shift, std_eqr, std_strOf, std_bytesOf, std_isB, std_zOf, zOf_int, std_isI, isI_int, std_getL, std_nmul, std_sOf, sOf_str, std_isS, isS_str]; done)
      | (simp [tyOf, std_add, std_sub, std_mul, std_quo, std_rem, std_band, std_bor, std_bxor, std_shl, std_shr, std_eq, std_ne, std_lt, std_le, std_conv, std_not, std_beq, std_bne, std_ite, std_want, std_and2, std_sadd, std_seq, std_sne, std_slt, std_sle, std_sgt, std_sge, std_slen, std_sget, std_scut, std_ofNat, std_toNat, std_nsub, std_nadd, std_lenOf, std_nz, std_nneg, std_inb, std_upto, std_slt63, std_grow, std_imp, std_impN, std_tr, std_tb, std_ti, std_ts, std_tn, std_tp, std_nmin, std_makes, std_room, std_zeros, std_nilq, std_notq, std_eqi, std_eqn, std_eqb, std_eqs, std_eqv, std_cat, std_lst, std_rset, std_rcopy, std_shift, std_eqr, std_strOf, std_bytesOf, std_isB, std_zOf, zOf_int, std_isI, isI_int, std_getL, std_nmul, std_sOf, sOf_str, std_isS, isS_str]; rfl)
      | trace_state
  · rintro ⟨⟨i, M⟩, hi, hM⟩
    simp only at hi hM
    have hf5 := fOf_len k
    have hMl : M.length = i := by rw [hM, List.length_take, dIs_len]; omega
    cbv
    repeat' (first | with_reducible exact True.intro | with_reducible exact dr_ok hA (by kernel_rfl) | with_reducible refine And.intro ?_ ?_ | (intro hc; cbv))
    all_goals first
      | (fail_if_success (refine Exists.intro ?_ ?_)
         have hlt : i < (fOf k).length := by (clear hM hMl hw hd hk; subst hA; simp [std_add, std_sub, std_mul, std_quo, std_rem, std_band, std_bor, std_bxor, std_shl, std_shr, std_eq, std_ne, std_lt, std_le, std_conv, std_not, std_beq, std_bne, std_ite, std_want, std_and2, std_sadd, std_seq, std_sne, std_slt, std_sle, std_sgt, std_sge, std_slen, std_sget, std_scut, std_ofNat, std_toNat, std_nsub, std_nadd, std_lenOf, std_nz, std_nneg, std_inb, std_upto, std_slt63, std_grow, std_imp, std_impN, std_tr, std_tb, std_ti, std_ts, std_tn, std_tp, std_nmin, std_makes, std_room, std_zeros, std_nilq, std_notq, std_eqi, std_eqn, std_eqb, std_eqs, std_eqv, std_cat, std_lst, std_rset, std_rcopy, std_shift, std_eqr, std_strOf, std_bytesOf, std_isB, std_zOf, zOf_int, std_isI, isI_int, std_getL, std_nmul, std_sOf, sOf_str, std_isS, isS_str] at *; omega)
         subst hA
         simp [-List.getD_eq_getElem?_getD, std_add, std_sub, std_mul, std_quo, std_rem, std_band, std_bor, std_bxor, std_shl, std_shr, std_eq, std_ne, std_lt, std_le, std_conv, std_not, std_beq, std_bne, std_ite, std_want, std_and2, std_sadd, std_seq, std_sne, std_slt, std_sle, std_sgt, std_sge, std_slen, std_sget, std_scut, std_ofNat, std_toNat, std_nsub, std_nadd, std_lenOf, std_nz, std_nneg, std_inb, std_upto, std_slt63, std_grow, std_imp, std_impN, std_tr, std_tb, std_ti, std_ts, std_tn, std_tp, std_nmin, std_makes, std_room, std_zeros, std_nilq, std_notq, std_eqi, std_eqn, std_eqb, std_eqs, std_eqv, std_cat, std_lst, std_rset, std_rcopy, std_shift, std_eqr, std_strOf, std_bytesOf, std_isB, std_zOf, zOf_int, std_isI, isI_int, std_getL, std_nmul, std_sOf, sOf_str, std_isS, isS_str] at *
         first
           | done
           | omega
           | assumption
           | exact ⟨ha, hs⟩
           | (constructor <;> omega)
           | trace_state)
      | (fail_if_success (refine Exists.intro ?_ ?_)
         have hie : i = (fOf k).length := by (clear hM hMl hw hd hk; subst hA; simp [std_add, std_sub, std_mul, std_quo, std_rem, std_band, std_bor, std_bxor, std_shl, std_shr, std_eq, std_ne, std_lt, std_le, std_conv, std_not, std_beq, std_bne, std_ite, std_want, std_and2, std_sadd, std_seq, std_sne, std_slt, std_sle, std_sgt, std_sge, std_slen, std_sget, std_scut, std_ofNat, std_toNat, std_nsub, std_nadd, std_lenOf, std_nz, std_nneg, std_inb, std_upto, std_slt63, std_grow, std_imp, std_impN, std_tr, std_tb, std_ti, std_ts, std_tn, std_tp, std_nmin, std_makes, std_room, std_zeros, std_nilq, std_notq, std_eqi, std_eqn, std_eqb, std_eqs, std_eqv, std_cat, std_lst, std_rset, std_rcopy, std_shift, std_eqr, std_strOf, std_bytesOf, std_isB, std_zOf, zOf_int, std_isI, isI_int, std_getL, std_nmul, std_sOf, sOf_str, std_isS, isS_str] at *; omega)
         have hM2 : M = dIs k a s p r c := by rw [hM, hie, ← dIs_len k a s p r c, List.take_length]
         subst hA
         simp only [std_add, std_sub, std_mul, std_quo, std_rem, std_band, std_bor, std_bxor, std_shl, std_shr, std_eq, std_ne, std_lt, std_le, std_conv, std_not, std_beq, std_bne, std_ite, std_want, std_and2, std_sadd, std_seq, std_sne, std_slt, std_sle, std_sgt, std_sge, std_slen, std_sget, std_scut, std_ofNat, std_toNat, std_nsub, std_nadd, std_lenOf, std_nz, std_nneg, std_inb, std_upto, std_slt63, std_grow, std_imp, std_impN, std_tr, std_tb, std_ti, std_ts, std_tn, std_tp, std_nmin, std_makes, std_room, std_zeros, std_nilq, std_notq, std_eqi, std_eqn, std_eqb, std_eqs, std_eqv, std_cat, std_lst, std_rset, std_rcopy, std_shift, std_eqr, std_strOf, std_bytesOf, std_isB, std_zOf, zOf_int, std_isI, isI_int, std_getL, std_nmul, std_sOf, sOf_str, std_isS, isS_str]
         first
           | exact hw.1.symm
           | (rw [hw.1]; done)
           | (rw [hw.2.1, hM2]; done)
           | (rw [hw.2.1, hM2]; exact (Reps.lit _).eqr)
           | exact hw.2.2.symm
           | trace_state)
      | (have hlt : i < (fOf k).length := by (clear hM hMl hw hd hk; subst hA; simp [std_add, std_sub, std_mul, std_quo, std_rem, std_band, std_bor, std_bxor, std_shl, std_shr, std_eq, std_ne, std_lt, std_le, std_conv, std_not, std_beq, std_bne, std_ite, std_want, std_and2, std_sadd, std_seq, std_sne, std_slt, std_sle, std_sgt, std_sge, std_slen, std_sget, std_scut, std_ofNat, std_toNat, std_nsub, std_nadd, std_lenOf, std_nz, std_nneg, std_inb, std_upto, std_slt63, std_grow, std_imp, std_impN, std_tr, std_tb, std_ti, std_ts, std_tn, std_tp, std_nmin, std_makes, std_room, std_zeros, std_nilq, std_notq, std_eqi, std_eqn, std_eqb, std_eqs, std_eqv, std_cat, std_lst, std_rset, std_rcopy, std_shift, std_eqr, std_strOf, std_bytesOf, std_isB, std_zOf, zOf_int, std_isI, isI_int, std_getL, std_nmul, std_sOf, sOf_str, std_isS, isS_str] at *; omega)
         obtain ⟨i', hi'⟩ : ∃ i', i' = i + 1 := ⟨_, rfl⟩
         obtain ⟨M', hM'⟩ : ∃ M', M' = (dIs k a s p r c).take i' := ⟨_, rfl⟩
         refine ⟨⟨(i', M'), by omega, hM'⟩, ?_, show (fOf k).length - i' < (fOf k).length - i by omega⟩
         rw [hi', dIs_take hlt, ← hM] at hM'
         cbv
         subst hA
         simp [-List.getD_eq_getElem?_getD, std_add, std_sub, std_mul, std_quo, std_rem, std_band, std_bor, std_bxor, std_shl, std_shr, std_eq, std_ne, std_lt, std_le, std_conv, std_not, std_beq, std_bne, std_ite, std_want, std_and2, std_sadd, std_seq, std_sne, std_slt, std_sle, std_sgt, std_sge, std_slen, std_sget, std_scut, std_ofNat, std_toNat, std_nsub, std_nadd, std_lenOf, std_nz, std_nneg, std_inb, std_upto, std_slt63, std_grow, std_imp, std_impN, std_tr, std_tb, std_ti, std_ts, std_tn, std_tp, std_nmin, std_makes, std_room, std_zeros, std_nilq, std_notq, std_eqi, std_eqn, std_eqb, std_eqs, std_eqv, std_cat, std_lst, std_rset, std_rcopy, std_shift, std_eqr, std_strOf, std_bytesOf, std_isB, std_zOf, zOf_int, std_isI, isI_int, std_getL, std_nmul, std_sOf, sOf_str, std_isS, isS_str, strOf_lit, lstOf_lit inj_eB, lstOf_lit inj_eZ, lstOf_lit inj_eBs, lstOf_lit inj_eS, isRow_lit, isB_lit, isRow_nil, lstOf_nil inj_eB, lstOf_nil inj_eZ, lstOf_nil inj_eBs, lstOf_nil inj_eS]
         first
           | exact ⟨(w64 (by omega)).trans (by omega), by rw [hM']; simp, snoc_row rfl (cell_eI _ _) hM'.symm (by rw [hM']; simp)⟩
           | trace_state)
      | trace_state
end Go.Vd

/- Deals: Read. -/
set_option linter.unusedVariables false
set_option linter.unusedSimpArgs false
set_option maxRecDepth 100000
set_option maxHeartbeats 8000000
namespace Go.Vd
open Go.Proofs
theorem fs_ext {L : List It} {F : List Int} (hl : L.length = F.length) (h : ∀ j, j < L.length → (L.getD j (0, [])).1 = F.getD j 0) : fs L = F := by
  refine List.ext_getElem (by simp [fs, hl]) fun j h1 h2 => ?_
  have h3 : j < L.length := by simpa [fs] using h1
  have := h j h3
  rw [List.getD_eq_getElem?_getD, List.getD_eq_getElem?_getD, List.getElem?_eq_getElem h3, List.getElem?_eq_getElem h2] at this
  simpa [fs] using this
theorem fs_no {L : List It} {F : List Int} {i : Nat} (hi : i < L.length) (h : ¬(L.getD i (0, [])).1 = F.getD i 0) : ¬fs L = F := by
  rintro rfl
  apply h
  rw [List.getD_eq_getElem?_getD, List.getD_eq_getElem?_getD, List.getElem?_eq_getElem hi, List.getElem?_eq_getElem (by simpa [fs] using hi)]
  simp [fs]
noncomputable def iEq : Nat → Option Func := addI 152 Tryd.f152 (addI 153 Tryd.f153 noI)
theorem iEq_ok : InOk Tryd.prog iEq := addI_ok (addI_ok noI_ok Tryd.func153 (by kernel_rfl)) Tryd.func152 (by kernel_rfl)
theorem good_hasJust (T : List UInt8) (L : List It) (F : List Int) (hL : L.length ≤ 1000000) (hF : F.length ≤ 1000000) : GoodP Tryd.prog gl0 98 [.agg [.str T, rowS eI (0, []) 2 std fun _ => L], rowS eZ 0 1 std fun _ => F] (.bool (std.tb fun _ => decide (fs L = F))) := by
  refine fn_sound' (T := seatT) (G := gO2) (X := noX) seatT_ok gO2_ok noX_ok iEq_ok mixed Tryd.func98 (.one) (fun A => [.agg [.str T, rowS eI (0, []) 2 A fun _ => L], rowS eZ 0 1 A fun _ => F]) (fun A => .bool (A.tb fun _ => decide (fs L = F))) fun A hA => ?_
  cbv
  repeat' (first | with_reducible exact True.intro | with_reducible exact dr_ok hA (by kernel_rfl) | with_reducible refine And.intro ?_ ?_ | (intro hc; cbv))
  all_goals first
    | (fail_if_success (refine Exists.intro ?_ ?_)
       subst hA
       simp [-List.getD_eq_getElem?_getD, std_add, std_sub, std_mul, std_quo, std_rem, std_band, std_bor, std_bxor, std_shl, std_shr, std_eq, std_ne, std_lt, std_le, std_conv, std_not, std_beq, std_bne, std_ite, std_want, std_and2, std_sadd, std_seq, std_sne, std_slt, std_sle, std_sgt, std_sge, std_slen, std_sget, std_scut, std_ofNat, std_toNat, std_nsub, std_nadd, std_lenOf, std_nz, std_nneg, std_inb, std_upto, std_slt63, std_grow, std_imp, std_impN, std_tr, std_tb, std_ti, std_ts, std_tn, std_tp, std_nmin, std_makes, std_room, std_zeros, std_nilq, std_notq, std_eqi, std_eqn, std_eqb, std_eqs, std_eqv, std_cat, std_lst, std_rset, std_rcopy, std_shift, std_eqr, std_strOf, std_bytesOf, std_isB, std_zOf, zOf_int, std_isI, isI_int, std_getL, std_nmul, std_sOf, sOf_str, std_isS, isS_str] at *
       first
         | done
         | (intro e; rw [← e] at hc; simp [fs] at hc; done)
         | trace_state)
    | skip
  have hl : L.length = F.length := by
    subst hA
    simp [std_add, std_sub, std_mul, std_quo, std_rem, std_band, std_bor, std_bxor, std_shl, std_shr, std_eq, std_ne, std_lt, std_le, std_conv, std_not, std_beq, std_bne, std_ite, std_want, std_and2, std_sadd, std_seq, std_sne, std_slt, std_sle, std_sgt, std_sge, std_slen, std_sget, std_scut, std_ofNat, std_toNat, std_nsub, std_nadd, std_lenOf, std_nz, std_nneg, std_inb, std_upto, std_slt63, std_grow, std_imp, std_impN, std_tr, std_tb, std_ti, std_ts, std_tn, std_tp, std_nmin, std_makes, std_room, std_zeros, std_nilq, std_notq, std_eqi, std_eqn, std_eqb, std_eqs, std_eqv, std_cat, std_lst, std_rset, std_rcopy, std_shift, std_eqr, std_strOf, std_bytesOf, std_isB, std_zOf, zOf_int, std_isI, isI_int, std_getL, std_nmul, std_sOf, sOf_str, std_isS, isS_str] at hc
    omega
  clear hc
  refine ⟨⟨{i : Nat // i ≤ L.length ∧ ∀ j, j < i → (L.getD j (0, [])).1 = F.getD j 0}, fun b i => [(17, .int .i64 (i.1 : Nat))], fun b i => [], fun i => L.length - i.1, true⟩, ⟨⟨0, by omega, fun j hj => absurd hj (by omega)⟩, ?_⟩, ?_⟩
  · cbv
    subst hA
    simp [-List.getD_eq_getElem?_getD, std_add, std_sub, std_mul, std_quo, std_rem, std_band, std_bor, std_bxor, std_shl, std_shr, std_eq, std_ne, std_lt, std_le, std_conv, std_not, std_beq, std_bne, std_ite, std_want, std_and2, std_sadd, std_seq, std_sne, std_slt, std_sle, std_sgt, std_sge, std_slen, std_sget, std_scut, std_ofNat, std_toNat, std_nsub, std_nadd, std_lenOf, std_nz, std_nneg, std_inb, std_upto, std_slt63, std_grow, std_imp, std_impN, std_tr, std_tb, std_ti, std_ts, std_tn, std_tp, std_nmin, std_makes, std_room, std_zeros, std_nilq, std_notq, std_eqi, std_eqn, std_eqb, std_eqs, std_eqv, std_cat, std_lst, std_rset, std_rcopy, std_shift, std_eqr, std_strOf, std_bytesOf, std_isB, std_zOf, zOf_int, std_isI, isI_int, std_getL, std_nmul, std_sOf, sOf_str, std_isS, isS_str]
  · rintro ⟨i, hi, h0⟩
    cbv
    repeat' (first | with_reducible exact True.intro | with_reducible exact dr_ok hA (by kernel_rfl) | with_reducible refine And.intro ?_ ?_ | (intro hc; cbv))
    all_goals first
      | (fail_if_success (refine Exists.intro ?_ ?_)
         subst hA
         simp [-List.getD_eq_getElem?_getD, std_add, std_sub, std_mul, std_quo, std_rem, std_band, std_bor, std_bxor, std_shl, std_shr, std_eq, std_ne, std_lt, std_le, std_conv, std_not, std_beq, std_bne, std_ite, std_want, std_and2, std_sadd, std_seq, std_sne, std_slt, std_sle, std_sgt, std_sge, std_slen, std_sget, std_scut, std_ofNat, std_toNat, std_nsub, std_nadd, std_lenOf, std_nz, std_nneg, std_inb, std_upto, std_slt63, std_grow, std_imp, std_impN, std_tr, std_tb, std_ti, std_ts, std_tn, std_tp, std_nmin, std_makes, std_room, std_zeros, std_nilq, std_notq, std_eqi, std_eqn, std_eqb, std_eqs, std_eqv, std_cat, std_lst, std_rset, std_rcopy, std_shift, std_eqr, std_strOf, std_bytesOf, std_isB, std_zOf, zOf_int, std_isI, isI_int, std_getL, std_nmul, std_sOf, sOf_str, std_isS, isS_str] at *
         first
           | done
           | omega
           | exact fs_no (by omega) hc
           | (have hie : i = L.length := by omega
              subst hie
              exact fs_ext hl h0)
           | trace_state)
      | (have hlt : i < L.length := by (clear h0; subst hA; simp [-List.getD_eq_getElem?_getD, std_add, std_sub, std_mul, std_quo, std_rem, std_band, std_bor, std_bxor, std_shl, std_shr, std_eq, std_ne, std_lt, std_le, std_conv, std_not, std_beq, std_bne, std_ite, std_want, std_and2, std_sadd, std_seq, std_sne, std_slt, std_sle, std_sgt, std_sge, std_slen, std_sget, std_scut, std_ofNat, std_toNat, std_nsub, std_nadd, std_lenOf, std_nz, std_nneg, std_inb, std_upto, std_slt63, std_grow, std_imp, std_impN, std_tr, std_tb, std_ti, std_ts, std_tn, std_tp, std_nmin, std_makes, std_room, std_zeros, std_nilq, std_notq, std_eqi, std_eqn, std_eqb, std_eqs, std_eqv, std_cat, std_lst, std_rset, std_rcopy, std_shift, std_eqr, std_strOf, std_bytesOf, std_isB, std_zOf, zOf_int, std_isI, isI_int, std_getL, std_nmul, std_sOf, sOf_str, std_isS, isS_str] at *; omega)
         have hne : (L.getD i (0, [])).1 = F.getD i 0 := by (clear h0; subst hA; simp [-List.getD_eq_getElem?_getD, std_add, std_sub, std_mul, std_quo, std_rem, std_band, std_bor, std_bxor, std_shl, std_shr, std_eq, std_ne, std_lt, std_le, std_conv, std_not, std_beq, std_bne, std_ite, std_want, std_and2, std_sadd, std_seq, std_sne, std_slt, std_sle, std_sgt, std_sge, std_slen, std_sget, std_scut, std_ofNat, std_toNat, std_nsub, std_nadd, std_lenOf, std_nz, std_nneg, std_inb, std_upto, std_slt63, std_grow, std_imp, std_impN, std_tr, std_tb, std_ti, std_ts, std_tn, std_tp, std_nmin, std_makes, std_room, std_zeros, std_nilq, std_notq, std_eqi, std_eqn, std_eqb, std_eqs, std_eqv, std_cat, std_lst, std_rset, std_rcopy, std_shift, std_eqr, std_strOf, std_bytesOf, std_isB, std_zOf, zOf_int, std_isI, isI_int, std_getL, std_nmul, std_sOf, sOf_str, std_isS, isS_str] at *; exact hc)
         refine ⟨⟨i + 1, by omega, fun j hj => ?_⟩, ?_, show L.length - (i + 1) < L.length - i by omega⟩
         · by_cases e : j = i
           · subst e; exact hne
           · exact h0 j (by omega)
         cbv
         subst hA
         simp [std_add, std_sub, std_mul, std_quo, std_rem, std_band, std_bor, std_bxor, std_shl, std_shr, std_eq, std_ne, std_lt, std_le, std_conv, std_not, std_beq, std_bne, std_ite, std_want, std_and2, std_sadd, std_seq, std_sne, std_slt, std_sle, std_sgt, std_sge, std_slen, std_sget, std_scut, std_ofNat, std_toNat, std_nsub, std_nadd, std_lenOf, std_nz, std_nneg, std_inb, std_upto, std_slt63, std_grow, std_imp, std_impN, std_tr, std_tb, std_ti, std_ts, std_tn, std_tp, std_nmin, std_makes, std_room, std_zeros, std_nilq, std_notq, std_eqi, std_eqn, std_eqb, std_eqs, std_eqv, std_cat, std_lst, std_rset, std_rcopy, std_shift, std_eqr, std_strOf, std_bytesOf, std_isB, std_zOf, zOf_int, std_isI, isI_int, std_getL, std_nmul, std_sOf, sOf_str, std_isS, isS_str]
         exact (w64 (by omega)).trans (by omega))
      | trace_state
theorem good_number (T : List UInt8) (L : List It) (n : Int) (hL : L.length ≤ 1000000) : GoodP Tryd.prog gl0 99 [.agg [.str T, rowS eI (0, []) 2 std fun _ => L], .int .i64 n] (.int .u64 (std.ti fun _ => (gVal (mG L n) : Int))) := by
  refine fn_sound' (T := seatT) (G := gO2) (X := noX) seatT_ok gO2_ok noX_ok noI_ok mixed Tryd.func99 (.one) (fun A => [.agg [.str T, rowS eI (0, []) 2 A fun _ => L], .int .i64 n]) (fun A => .int .u64 (A.ti fun _ => (gVal (mG L n) : Int))) fun A hA => ?_
  cbv
  repeat' (first | with_reducible exact True.intro | with_reducible exact dr_ok hA (by kernel_rfl) | with_reducible refine And.intro ?_ ?_ | (intro hc; cbv))
  all_goals (subst hA; simp [std_add, std_sub, std_mul, std_quo, std_rem, std_band, std_bor, std_bxor, std_shl, std_shr, std_eq, std_ne, std_lt, std_le, std_conv, std_not, std_beq, std_bne, std_ite, std_want, std_and2, std_sadd, std_seq, std_sne, std_slt, std_sle, std_sgt, std_sge, std_slen, std_sget, std_scut, std_ofNat, std_toNat, std_nsub, std_nadd, std_lenOf, std_nz, std_nneg, std_inb, std_upto, std_slt63, std_grow, std_imp, std_impN, std_tr, std_tb, std_ti, std_ts, std_tn, std_tp, std_nmin, std_makes, std_room, std_zeros, std_nilq, std_notq, std_eqi, std_eqn, std_eqb, std_eqs, std_eqv, std_cat, std_lst, std_rset, std_rcopy, std_shift, std_eqr, std_strOf, std_bytesOf, std_isB, std_zOf, zOf_int, std_isI, isI_int, std_getL, std_nmul, std_sOf, sOf_str, std_isS, isS_str, lstOf_lit inj_eI, isRow_lit] at *)
  all_goals first
    | omega
    | trace_state
theorem good_namesFirst (T : List UInt8) (L : List It) (hL : L.length ≤ 1000000) (h11 : (mG L 11).length ≤ 1000) : GoodP Tryd.prog gl0 101 [.agg [.str T, rowS eI (0, []) 2 std fun _ => L]] (.bool (std.tb fun _ => decide (mG L 90 = frst (mG L 11)))) := by
  refine fn_sound' (T := seatT) (G := gO2) (X := noX) seatT_ok gO2_ok noX_ok noI_ok mixed Tryd.func101 (.one) (fun A => [.agg [.str T, rowS eI (0, []) 2 A fun _ => L]]) (fun A => .bool (A.tb fun _ => decide (mG L 90 = frst (mG L 11)))) fun A hA => ?_
  cbv
  repeat' (first | with_reducible exact True.intro | with_reducible exact dr_ok hA (by kernel_rfl) | with_reducible refine And.intro ?_ ?_ | (intro hc; cbv))
  all_goals (subst hA; simp [std_add, std_sub, std_mul, std_quo, std_rem, std_band, std_bor, std_bxor, std_shl, std_shr, std_eq, std_ne, std_lt, std_le, std_conv, std_not, std_beq, std_bne, std_ite, std_want, std_and2, std_sadd, std_seq, std_sne, std_slt, std_sle, std_sgt, std_sge, std_slen, std_sget, std_scut, std_ofNat, std_toNat, std_nsub, std_nadd, std_lenOf, std_nz, std_nneg, std_inb, std_upto, std_slt63, std_grow, std_imp, std_impN, std_tr, std_tb, std_ti, std_ts, std_tn, std_tp, std_nmin, std_makes, std_room, std_zeros, std_nilq, std_notq, std_eqi, std_eqn, std_eqb, std_eqs, std_eqv, std_cat, std_lst, std_rset, std_rcopy, std_shift, std_eqr, std_strOf, std_bytesOf, std_isB, std_zOf, zOf_int, std_isI, isI_int, std_getL, std_nmul, std_sOf, sOf_str, std_isS, isS_str, lstOf_lit inj_eI, isRow_lit] at *)
  all_goals first
    | omega
    | (rw [Bool.eq_iff_iff]; simp; done)
    | trace_state
noncomputable def c_hasJust : Ct := fun A args => match args with
  | [.agg [.str T, .slc n 2 f], .slc m 1 g] => some (some (A.tp fun _ => isRow eI (0, []) 2 n f ∧ isRow eZ 0 1 m g ∧ n ≤ 1000000 ∧ m ≤ 1000000), .bool (A.tb fun _ => decide (fs (lstOf eI (0, []) 2 n f) = lstOf eZ 0 1 m g)))
  | _ => none
noncomputable def c_number : Ct := fun A args => match args with
  | [.agg [.str T, .slc n 2 f], .int .i64 z] => some (some (A.tp fun _ => isRow eI (0, []) 2 n f ∧ n ≤ 1000000), .int .u64 (A.ti fun _ => (gVal (mG (lstOf eI (0, []) 2 n f) z) : Int)))
  | _ => none
noncomputable def c_namesFirst : Ct := fun A args => match args with
  | [.agg [.str T, .slc n 2 f]] => some (some (A.tp fun _ => isRow eI (0, []) 2 n f ∧ n ≤ 1000000 ∧ (mG (lstOf eI (0, []) 2 n f) 11).length ≤ 1000), .bool (A.tb fun _ => decide (mG (lstOf eI (0, []) 2 n f) 90 = frst (mG (lstOf eI (0, []) 2 n f) 11))))
  | _ => none
noncomputable def gO3 : Ar → Pu := addC 98 c_hasJust (addC 99 c_number (addC 101 c_namesFirst (gO2)))
theorem gO3_ok : PuOk Tryd.prog gl0 (gO3 std) := by
  refine addC_ok (addC_ok (addC_ok (gO2_ok) ⟨_, Tryd.func101, rfl, by decide⟩ ?_) ⟨_, Tryd.func99, rfl, by decide⟩ ?_) ⟨_, Tryd.func98, rfl, by decide⟩ ?_
  · intro args p r h hp
    unfold c_namesFirst at h
    split at h <;> cases h
    exact good_sv (good_namesFirst _ _ (by rw [lstOf_length hp.1]; exact hp.2.1) hp.2.2) ⟨⟨_, rfl, rfl, hp.1.sv, trivial⟩, trivial⟩
  · intro args p r h hp
    unfold c_number at h
    split at h <;> cases h
    exact good_sv (good_number _ _ _ (by rw [lstOf_length hp.1]; exact hp.2)) ⟨⟨_, rfl, rfl, hp.1.sv, trivial⟩, rfl, trivial⟩
  · intro args p r h hp
    unfold c_hasJust at h
    split at h <;> cases h
    exact good_sv (good_hasJust _ _ _ (by rw [lstOf_length hp.1]; exact hp.2.2.1) (by rw [lstOf_length hp.2.1]; exact hp.2.2.2)) ⟨⟨_, rfl, rfl, hp.1.sv, trivial⟩, hp.2.1.sv, trivial⟩
theorem de_1 {T : List UInt8} {L : List It} (h : mR T L = false) : dE T L = 1 := if_pos h
theorem de_2 {T : List UInt8} {L : List It} (h : mR T L = true) (h1 : ¬fs L = fOf (kdOf T)) : dE T L = 3 := by unfold dE; rw [if_neg (by simp [h]), if_pos h1]
theorem de_3 {T : List UInt8} {L : List It} (h : mR T L = true) (h1 : fs L = fOf (kdOf T)) (h2 : dAsks (kdOf T) = false) : dE T L = 0 := by unfold dE; rw [if_neg (by simp [h]), if_neg (by simp [h1]), if_pos h2]
theorem de_4 {T : List UInt8} {L : List It} (h : mR T L = true) (h1 : fs L = fOf (kdOf T)) (h2 : dAsks (kdOf T) = true) (h3 : lFine (mG L 2) = false) : dE T L = 3 := by unfold dE; rw [if_neg (by simp [h]), if_neg (by simp [h1]), if_neg (by simp [h2]), if_pos h3]
theorem de_5 {T : List UInt8} {L : List It} (h : mR T L = true) (h1 : fs L = fOf (kdOf T)) (h2 : dAsks (kdOf T) = true) (h3 : lFine (mG L 2) = true) (h4 : kdOf T = 5 ∨ kdOf T = 6) (h5 : ¬mG L 90 = frst (mG L 11)) : dE T L = 11 := by unfold dE; rw [if_neg (by simp [h]), if_neg (by simp [h1]), if_neg (by simp [h2]), if_neg (by simp [h3]), if_pos ⟨tl_iff.2 h4, h5⟩]
theorem de_6 {T : List UInt8} {L : List It} (h : mR T L = true) (h1 : fs L = fOf (kdOf T)) (h2 : dAsks (kdOf T) = true) (h3 : lFine (mG L 2) = true) (h4 : (kdOf T = 5 ∨ kdOf T = 6) → mG L 90 = frst (mG L 11)) : dE T L = 0 := by unfold dE; rw [if_neg (by simp [h]), if_neg (by simp [h1]), if_neg (by simp [h2]), if_neg (by simp [h3]), if_neg (fun e => e.2 (h4 (tl_iff.1 e.1)))]
theorem mG_len {T : List UInt8} {L : List It} (h : mR T L = true) (n : Int) : (mG L n).length ≤ 999 := by
  unfold mG
  cases e : L.find? (fun x => x.1 == n) with
  | none => simp
  | some x =>
    have hx := List.mem_of_find?_eq_some e
    have h2 := rr_ok ((mR_iff.1 h).2.2.1 x hx)
    have h3 := dOk_b h2.1
    show x.2.length ≤ 999
    omega
theorem mG_11 {T : List UInt8} {L : List It} (h : mR T L = true) (h1 : fs L = fOf (kdOf T)) : gVal (mG L 11) < 1000000 := by
  have hr := (mR_iff.1 h).2.2.1
  generalize kdOf T = k at h1
  have key : ∀ x, ((11 : Int), x) ∈ L → gVal x < 1000000 := fun x hx => by
    have r := rr11.1 (hr _ hx)
    exact (num_back (n := 0) (k := 6) (by omega) r.1 r.2).2
  unfold fOf at h1
  split at h1
  · obtain ⟨x1, x2, x3, x4, x5, rfl⟩ := fl5_of h1
    exact key x3 (by simp)
  · split at h1
    · obtain ⟨x1, x2, x3, x4, rfl⟩ := fl4_of h1
      exact key x3 (by simp)
    · obtain ⟨x3, x4, x5, rfl⟩ := fl3_of h1
      exact key x3 (by simp)
theorem u32_6 {z : Int} (h : 0 ≤ z ∧ z < 1000000) : IntKind.u32.wrap z = z := by
  unfold IntKind.wrap
  simp [IntKind.signed, IntKind.bits] <;> omega
theorem good_dRead (T : List UInt8) (L : List It) (hL : L.length ≤ 1000000) (hS : ∀ i, (L.getD i (0, [])).2.length ≤ 1000000) : GoodP Tryd.prog gl0 35 [.agg [.str T, rowS eI (0, []) 2 std fun _ => L]] (.tup [.agg [.int .i64 (std.ti fun _ => xK T L), .str (std.ts fun _ => xP T L), .int .u64 (std.ti fun _ => xA T L), .int .u32 (std.ti fun _ => xS T L), .str (std.ts fun _ => xR T L), .str (std.ts fun _ => xC T L)], .int .i64 (std.ti fun _ => dE T L)]) := by
  refine fn_sound' (T := seatT) (G := gO3) (X := noX) seatT_ok gO3_ok noX_ok noI_ok mixed Tryd.func35 (.one) (fun A => [.agg [.str T, rowS eI (0, []) 2 A fun _ => L]]) (fun A => .tup [.agg [.int .i64 (A.ti fun _ => xK T L), .str (A.ts fun _ => xP T L), .int .u64 (A.ti fun _ => xA T L), .int .u32 (A.ti fun _ => xS T L), .str (A.ts fun _ => xR T L), .str (A.ts fun _ => xC T L)], .int .i64 (A.ti fun _ => dE T L)]) fun A hA => ?_
  cbv
  repeat' (first | with_reducible exact True.intro | with_reducible exact dr_ok hA (by kernel_rfl) | with_reducible refine And.intro ?_ ?_ | (intro hc; cbv))
  all_goals (subst hA; simp [-List.getD_eq_getElem?_getD, std_add, std_sub, std_mul, std_quo, std_rem, std_band, std_bor, std_bxor, std_shl, std_shr, std_eq, std_ne, std_lt, std_le, std_conv, std_not, std_beq, std_bne, std_ite, std_want, std_and2, std_sadd, std_seq, std_sne, std_slt, std_sle, std_sgt, std_sge, std_slen, std_sget, std_scut, std_ofNat, std_toNat, std_nsub, std_nadd, std_lenOf, std_nz, std_nneg, std_inb, std_upto, std_slt63, std_grow, std_imp, std_impN, std_tr, std_tb, std_ti, std_ts, std_tn, std_tp, std_nmin, std_makes, std_room, std_zeros, std_nilq, std_notq, std_eqi, std_eqn, std_eqb, std_eqs, std_eqv, std_cat, std_lst, std_rset, std_rcopy, std_shift, std_eqr, std_strOf, std_bytesOf, std_isB, std_zOf, zOf_int, std_isI, isI_int, std_getL, std_nmul, std_sOf, sOf_str, std_isS, isS_str, lstOf_lit inj_eI, lstOf_lit inj_eZ, isRow_lit] at *)
  all_goals (have hfl := fOf_len (kdOf T))
  all_goals first
    | omega
    | exact ⟨hL, hS⟩
    | (constructor <;> omega)
    | (have e := de_1 (by assumption : mR T L = false)
       have b := dE_bad (T := T) (L := L) (by rw [e]; decide)
       first | exact b.1.symm | exact b.2.1.symm | exact b.2.2.1.symm | exact b.2.2.2.1 | exact b.2.2.2.2.1 | exact b.2.2.2.2.2 | exact e.symm)
    | (have e := de_2 (by assumption : mR T L = true) (by assumption)
       have b := dE_bad (T := T) (L := L) (by rw [e]; decide)
       first | exact b.1.symm | exact b.2.1.symm | exact b.2.2.1.symm | exact b.2.2.2.1 | exact b.2.2.2.2.1 | exact b.2.2.2.2.2 | exact e.symm)
    | (have hm : mR T L = true := by assumption
       have hj : fs L = fOf (kdOf T) := by assumption
       have h2 := mG_len hm 2
       have h11 := mG_len hm 11
       have hn := u32_6 (z := (gVal (mG L 11) : Int)) ⟨by omega, by have := mG_11 hm hj; omega⟩
       first
         | omega
         | exact fun h => ⟨h, by omega, by omega⟩
         | (have e := de_4 hm hj (by assumption) (by assumption)
            have b := dE_bad (T := T) (L := L) (by rw [e]; decide)
            first | exact b.1.symm | exact b.2.1.symm | exact b.2.2.1.symm | exact b.2.2.2.1 | exact b.2.2.2.2.1 | exact b.2.2.2.2.2 | exact e.symm)
         | (have e := de_5 hm hj (by assumption) (by assumption) (hc.1.imp of_decide_eq_true of_decide_eq_true) hc.2
            have b := dE_bad (T := T) (L := L) (by rw [e]; decide)
            first | exact b.1.symm | exact b.2.1.symm | exact b.2.2.1.symm | exact b.2.2.2.1 | exact b.2.2.2.2.1 | exact b.2.2.2.2.2 | exact e.symm)
         | (have ha : dAsks (kdOf T) = false := by assumption
            have e := de_3 hm hj ha
            simp [xK, xA, xS, xP, xR, xC, e, ha, hn]
            done)
         | (have ha : dAsks (kdOf T) = true := by assumption
            have e := de_6 hm hj ha (by assumption) (fun h => hc (h.imp decide_eq_true decide_eq_true))
            simp [xK, xA, xS, xP, xR, xC, e, ha, hn]
            done)
         | trace_state)
    | trace_state
noncomputable def c_dWrite : Ct := fun A args => match args with
  | [.agg [.int .i64 k, .str p, .int .u64 a, .int .u32 s, .str r, .str c]] => some (some (A.tp fun _ => (0 ≤ a ∧ a < 18446744073709551616) ∧ (0 ≤ s ∧ s < 4294967296) ∧ p.length ≤ 100000 ∧ r.length ≤ 1000000 ∧ c.length ≤ 1000000), .tup [.agg [.str (A.ts fun _ => dWT k a s p r c), rowS eI (0, []) 2 A fun _ => dWL k a s p r c], .int .i64 (A.ti fun _ => dWe k a s p r c)])
  | _ => none
noncomputable def c_dRead : Ct := fun A args => match args with
  | [.agg [.str T, .slc n 2 f]] => some (some (A.tp fun _ => isRow eI (0, []) 2 n f ∧ n ≤ 1000000 ∧ ∀ i, ((lstOf eI (0, []) 2 n f).getD i (0, [])).2.length ≤ 1000000), .tup [.agg [.int .i64 (A.ti fun _ => xK T (lstOf eI (0, []) 2 n f)), .str (A.ts fun _ => xP T (lstOf eI (0, []) 2 n f)), .int .u64 (A.ti fun _ => xA T (lstOf eI (0, []) 2 n f)), .int .u32 (A.ti fun _ => xS T (lstOf eI (0, []) 2 n f)), .str (A.ts fun _ => xR T (lstOf eI (0, []) 2 n f)), .str (A.ts fun _ => xC T (lstOf eI (0, []) 2 n f))], .int .i64 (A.ti fun _ => dE T (lstOf eI (0, []) 2 n f))])
  | _ => none
noncomputable def gO4 : Ar → Pu := addC 33 c_dWrite (addC 35 c_dRead (gO3))
theorem gO4_ok : PuOk Tryd.prog gl0 (gO4 std) := by
  refine addC_ok (addC_ok (gO3_ok) ⟨_, Tryd.func35, rfl, by decide⟩ ?_) ⟨_, Tryd.func33, rfl, by decide⟩ ?_
  · intro args p r h hp
    unfold c_dRead at h
    split at h <;> cases h
    exact good_sv (good_dRead _ _ (by rw [lstOf_length hp.1]; exact hp.2.1) hp.2.2) ⟨⟨_, rfl, rfl, hp.1.sv, trivial⟩, trivial⟩
  · intro args p r h hp
    unfold c_dWrite at h
    split at h <;> cases h
    exact good_dWrite _ _ _ _ _ _ hp.1 hp.2.1 hp.2.2.1 hp.2.2.2.1 hp.2.2.2.2
end Go.Vd

/- Deals: the laws' own functions; DealBack. -/
set_option linter.unusedVariables false
set_option linter.unusedSimpArgs false
set_option maxRecDepth 100000
set_option maxHeartbeats 8000000
namespace Go.Vd
open Go.Proofs
def oSh (p r c : List UInt8) : Bool := decide (p.length ≤ 300 ∧ r.length ≤ 300 ∧ c.length ≤ 300)
theorem oSh_iff {p r c : List UInt8} : oSh p r c = true ↔ p.length ≤ 300 ∧ r.length ≤ 300 ∧ c.length ≤ 300 := by simp [oSh]
theorem good_oShort (a c s : Int) (p r e : List UInt8) : GoodP Tryd.prog gl0 31 [.agg [.int .i64 a, .str p, .int .u64 c, .int .u32 s, .str r, .str e]] (.bool (std.tb fun _ => oSh p r e)) := by
  refine fn_sound' (T := seatT) (G := noC) (X := noX) seatT_ok noC_ok noX_ok noI_ok mixed Tryd.func31 (.one) (fun A => [.agg [.int .i64 a, .str p, .int .u64 c, .int .u32 s, .str r, .str e]]) (fun A => .bool (A.tb fun _ => oSh p r e)) fun A hA => ?_
  cbv
  repeat' (first | with_reducible exact True.intro | with_reducible exact dr_ok hA (by kernel_rfl) | with_reducible refine And.intro ?_ ?_ | (intro hc; cbv))
  all_goals (subst hA; simp [std_add, std_sub, std_mul, std_quo, std_rem, std_band, std_bor, std_bxor, std_shl, std_shr, std_eq, std_ne, std_lt, std_le, std_conv, std_not, std_beq, std_bne, std_ite, std_want, std_and2, std_sadd, std_seq, std_sne, std_slt, std_sle, std_sgt, std_sge, std_slen, std_sget, std_scut, std_ofNat, std_toNat, std_nsub, std_nadd, std_lenOf, std_nz, std_nneg, std_inb, std_upto, std_slt63, std_grow, std_imp, std_impN, std_tr, std_tb, std_ti, std_ts, std_tn, std_tp, std_nmin, std_makes, std_room, std_zeros, std_nilq, std_notq, std_eqi, std_eqn, std_eqb, std_eqs, std_eqv, std_cat, std_lst, std_rset, std_rcopy, std_shift, std_eqr, std_strOf, std_bytesOf, std_isB, std_zOf, zOf_int, std_isI, isI_int, std_getL, std_nmul, std_sOf, sOf_str, std_isS, isS_str, oSh] at *)
  all_goals first
    | (rw [Bool.eq_iff_iff]; simp; omega)
    | (intro _ _; constructor <;> assumption)
    | trace_state
noncomputable def c_oShort : Ct := fun A args => match args with
  | [.agg [.int .i64 a, .str p, .int .u64 c, .int .u32 s, .str r, .str e]] => some (none, .bool (A.tb fun _ => oSh p r e))
  | _ => none
noncomputable def c_oMShort : Ct := fun A args => match args with
  | [.agg [.str T, .slc n 2 f]] => some (some (A.tp fun _ => isRow eI (0, []) 2 n f), .bool (A.tb fun _ => mSh T (lstOf eI (0, []) 2 n f)))
  | _ => none
noncomputable def gO5a : Ar → Pu := addC 29 c_rSame gO4
theorem gO5a_ok : PuOk Tryd.prog gl0 (gO5a std) := by
  refine addC_ok gO4_ok ⟨_, Tryd.func29, rfl, by decide⟩ ?_
  intro args p r h hp
  unfold c_rSame at h
  split at h <;> cases h
  · exact good_sv (good_rSame _ _ _ _ (by rw [lstOf_length hp.1]; exact hp.2.2)) ⟨⟨_, rfl, rfl, hp.1.sv, trivial⟩, ⟨_, rfl, rfl, hp.2.1.sv, trivial⟩, trivial⟩
  · exact good_svn (good_rSame _ _ _ [] (by rw [lstOf_length hp.1]; exact hp.2.2)) ⟨⟨_, rfl, rfl, .inl hp.1.sv, trivial⟩, ⟨_, rfl, rfl, .inr ⟨hp.2.1, _, _, rfl⟩, trivial⟩, trivial⟩
noncomputable def gO5 : Ar → Pu := addC 31 c_oShort (addC 20 c_oMShort (gO5a))
theorem gO5_ok : PuOk Tryd.prog gl0 (gO5 std) := by
  refine addC_ok (addC_ok (gO5a_ok) ⟨_, Tryd.func20, rfl, by decide⟩ ?_) ⟨_, Tryd.func31, rfl, by decide⟩ ?_
  · intro args p r h hp
    unfold c_oMShort at h
    split at h <;> cases h
    exact good_sv (good_rShort _ _) ⟨⟨_, rfl, rfl, hp.sv, trivial⟩, trivial⟩
  · intro args p r h hp
    unfold c_oShort at h
    split at h <;> cases h
    exact good_oShort _ _ _ _ _ _
def dL0 : List It := [(2, [49, 56]), (4, [48, 48, 48, 48, 48, 48, 48, 48, 48, 53, 48, 48]), (11, [48, 48, 48, 48, 48, 55]), (37, [97, 98, 99, 100, 101, 102, 103, 104, 105, 106, 107, 108]), (90, [48, 49, 48, 48, 48, 48, 48, 48, 48, 55] ++ List.replicate 32 48)]
theorem dq0 : dWT 5 500 7 [49, 56] [97, 98, 99, 100, 101, 102, 103, 104, 105, 106, 107, 108] [] = [48, 52, 50, 48] ∧ dWL 5 500 7 [49, 56] [97, 98, 99, 100, 101, 102, 103, 104, 105, 106, 107, 108] [] = dL0 ∧ dWe 5 500 7 [49, 56] [97, 98, 99, 100, 101, 102, 103, 104, 105, 106, 107, 108] [] = 0 := by decide +kernel
theorem dq1 : dWT 1 0 0 [49, 57] [97, 98, 99, 100, 101, 102, 103, 104, 105, 106, 107, 108] [] = [] ∧ dWL 1 0 0 [49, 57] [97, 98, 99, 100, 101, 102, 103, 104, 105, 106, 107, 108] [] = [] ∧ dWe 1 0 0 [49, 57] [97, 98, 99, 100, 101, 102, 103, 104, 105, 106, 107, 108] [] = 1 := by decide +kernel
theorem dq2 : dE [48, 52, 50, 48] dL0 = 0 ∧ xK [48, 52, 50, 48] dL0 = 5 ∧ xA [48, 52, 50, 48] dL0 = 500 ∧ xS [48, 52, 50, 48] dL0 = 7 ∧ xP [48, 52, 50, 48] dL0 = [49, 56] ∧ xR [48, 52, 50, 48] dL0 = [97, 98, 99, 100, 101, 102, 103, 104, 105, 106, 107, 108] ∧ xC [48, 52, 50, 48] dL0 = [] := by decide +kernel
theorem dq3 : dR 5 500 7 [49, 56] [97, 98, 99, 100, 101, 102, 103, 104, 105, 106, 107, 108] [] = true ∧ dAsks 3 = true ∧ dAsks 7 = false := by decide +kernel
theorem dq4 : dL0.length = 5 ∧ (dL0.getD 1 (0, [])).2 = [48, 48, 48, 48, 48, 48, 48, 48, 48, 53, 48, 48] := ⟨rfl, rfl⟩
theorem dq5 : ∀ i, (dL0.getD i (0, [])).2.length ≤ 1000000 := fun i => Nat.le_trans (mSh_getD (T := mT0) (L := dL0) (by decide +kernel) i) (by decide)
theorem good_dAwake  : GoodP Tryd.prog gl0 30 [] (.bool true) := by
  refine fn_sound' (T := seatT) (G := gO5) (X := noX) seatT_ok gO5_ok noX_ok noI_ok mixed Tryd.func30 (.one) (fun A => []) (fun A => .bool true) fun A hA => ?_
  cbv
  repeat' (first | with_reducible exact True.intro | with_reducible exact dr_ok hA (by kernel_rfl) | with_reducible refine And.intro ?_ ?_ | (intro hc; cbv))
  all_goals (subst hA; simp only [std_add, std_sub, std_mul, std_quo, std_rem, std_band, std_bor, std_bxor, std_shl, std_shr, std_eq, std_ne, std_lt, std_le, std_conv, std_not, std_beq, std_bne, std_ite, std_want, std_and2, std_sadd, std_seq, std_sne, std_slt, std_sle, std_sgt, std_sge, std_slen, std_sget, std_scut, std_ofNat, std_toNat, std_nsub, std_nadd, std_lenOf, std_nz, std_nneg, std_inb, std_upto, std_slt63, std_grow, std_imp, std_impN, std_tr, std_tb, std_ti, std_ts, std_tn, std_tp, std_nmin, std_makes, std_room, std_zeros, std_nilq, std_notq, std_eqi, std_eqn, std_eqb, std_eqs, std_eqv, std_cat, std_lst, std_rset, std_rcopy, std_shift, std_eqr, std_strOf, std_bytesOf, std_isB, std_zOf, zOf_int, std_isI, isI_int, std_getL, std_nmul, std_sOf, sOf_str, std_isS, isS_str, strOf_lit, lstOf_lit inj_eB, lstOf_lit inj_eZ, lstOf_lit inj_eBs, lstOf_lit inj_eS, lstOf_lit inj_eI, dq0.1, dq0.2.1, dq0.2.2, dq1.1, dq1.2.1, dq1.2.2, dq2.1, dq2.2.1, dq2.2.2.1, dq2.2.2.2.1, dq2.2.2.2.2.1, dq2.2.2.2.2.2.1, dq2.2.2.2.2.2.2, dq3.1, dq3.2.1, dq3.2.2, dq4.2])
  all_goals first
    | done
    | decide
    | exact ⟨isRow_lit _, by decide, dq5⟩
    | exact ⟨isRow_lit _, by decide +kernel⟩
    | (rw [dq4.1]; decide)
    | exact fun h => h
    | exact fun h => ⟨h, by decide⟩
    | (simp [std_add, std_sub, std_mul, std_quo, std_rem, std_band, std_bor, std_bxor, std_shl, std_shr, std_eq, std_ne, std_lt, std_le, std_conv, std_not, std_beq, std_bne, std_ite, std_want, std_and2, std_sadd, std_seq, std_sne, std_slt, std_sle, std_sgt, std_sge, std_slen, std_sget, std_scut, std_ofNat, std_toNat, std_nsub, std_nadd, std_lenOf, std_nz, std_nneg, std_inb, std_upto, std_slt63, std_grow, std_imp, std_impN, std_tr, std_tb, std_ti, std_ts, std_tn, std_tp, std_nmin, std_makes, std_room, std_zeros, std_nilq, std_notq, std_eqi, std_eqn, std_eqb, std_eqs, std_eqv, std_cat, std_lst, std_rset, std_rcopy, std_shift, std_eqr, std_strOf, std_bytesOf, std_isB, std_zOf, zOf_int, std_isI, isI_int, std_getL, std_nmul, std_sOf, sOf_str, std_isS, isS_str, dq4.2]; done)
    | trace_state
noncomputable def c_dAwake : Ct := fun A args => match args with
  | [] => some (none, .bool true)
  | _ => none
noncomputable def gO6 : Ar → Pu := addC 30 c_dAwake (gO5)
theorem gO6_ok : PuOk Tryd.prog gl0 (gO6 std) := by
  refine addC_ok (gO5_ok) ⟨_, Tryd.func30, rfl, by decide⟩ ?_
  · intro args p r h hp
    unfold c_dAwake at h
    split at h <;> cases h
    exact good_dAwake
theorem dR_len {k a s : Int} {p r c : List UInt8} (h : dR k a s p r c = true) : p.length ≤ 19 ∧ r.length ≤ 12 ∧ c.length ≤ 2 ∧ a < 1000000000000 ∧ s ≤ 999999 := by
  obtain ⟨h0, h1, h2, h3, h4⟩ := dR_iff.1 h
  have q := rr_ok h2
  rw [fo37.2.2] at q
  cases e : dAsks k
  · obtain ⟨g1, g2, g3⟩ := h4 e
    have q' := rr_ok g1
    rw [fo39.2.2] at q'
    subst g2 g3
    exact ⟨by simp, by omega, by omega, by omega, h1⟩
  · obtain ⟨g1, g2, g3, g4⟩ := h3 e
    subst g4
    exact ⟨by omega, by omega, by simp, g3, h1⟩
theorem dWe_R {k a s : Int} {p r c : List UInt8} (h : dWe k a s p r c = 0) : dR k a s p r c = true := by
  cases e : dR k a s p r c
  · rw [(dw_no e).2.2] at h; cases h
  · rfl
theorem dd_two {k a s k' a' s' : Int} {p r c p' r' c' : List UInt8} (h : dR k a s p r c = true) (h' : dR k' a' s' p' r' c' = true) (ha : 0 ≤ a) (hs : 0 ≤ s) (ha' : 0 ≤ a') (hs' : 0 ≤ s') :
    (tyOf k = tyOf k' ∧ dIs k a s p r c = dIs k' a' s' p' r' c') ↔ (k = k' ∧ p = p' ∧ a = a' ∧ s = s' ∧ r = r' ∧ c = c') := by
  constructor
  · rintro ⟨e1, e2⟩
    have b := d_back h ha hs
    have b' := d_back h' ha' hs'
    rw [e1, e2] at b
    exact ⟨b.2.1.symm.trans b'.2.1, b.2.2.2.2.1.symm.trans b'.2.2.2.2.1, b.2.2.1.symm.trans b'.2.2.1, b.2.2.2.1.symm.trans b'.2.2.2.1, b.2.2.2.2.2.1.symm.trans b'.2.2.2.2.2.1, b.2.2.2.2.2.2.symm.trans b'.2.2.2.2.2.2⟩
  · rintro ⟨rfl, rfl, rfl, rfl, rfl, rfl⟩
    exact ⟨rfl, rfl⟩
theorem good_DealBack (k a s k' a' s' : Int) (p r c p' r' c' T : List UInt8) (L : List It) (ha : 0 ≤ a ∧ a < 18446744073709551616) (hs : 0 ≤ s ∧ s < 4294967296) (ha' : 0 ≤ a' ∧ a' < 18446744073709551616) (hs' : 0 ≤ s' ∧ s' < 4294967296) : GoodP Tryd.prog gl0 8 [.agg [.int .i64 k, .str p, .int .u64 a, .int .u32 s, .str r, .str c], .agg [.int .i64 k', .str p', .int .u64 a', .int .u32 s', .str r', .str c'], .agg [.str T, rowS eI (0, []) 2 std fun _ => L]] (.bool true) := by
  refine fn_sound' (T := seatT) (G := gO6) (X := noX) seatT_ok gO6_ok noX_ok noI_ok mixed Tryd.func8 (.one) (fun A => [.agg [.int .i64 k, .str p, .int .u64 a, .int .u32 s, .str r, .str c], .agg [.int .i64 k', .str p', .int .u64 a', .int .u32 s', .str r', .str c'], .agg [.str T, rowS eI (0, []) 2 A fun _ => L]]) (fun A => .bool true) fun A hA => ?_
  cbv
  repeat' (first | with_reducible exact True.intro | with_reducible exact dr_ok hA (by kernel_rfl) | with_reducible refine And.intro ?_ ?_ | (intro hc; cbv))
  all_goals (subst hA; simp [-List.getD_eq_getElem?_getD, std_add, std_sub, std_mul, std_quo, std_rem, std_band, std_bor, std_bxor, std_shl, std_shr, std_eq, std_ne, std_lt, std_le, std_conv, std_not, std_beq, std_bne, std_ite, std_want, std_and2, std_sadd, std_seq, std_sne, std_slt, std_sle, std_sgt, std_sge, std_slen, std_sget, std_scut, std_ofNat, std_toNat, std_nsub, std_nadd, std_lenOf, std_nz, std_nneg, std_inb, std_upto, std_slt63, std_grow, std_imp, std_impN, std_tr, std_tb, std_ti, std_ts, std_tn, std_tp, std_nmin, std_makes, std_room, std_zeros, std_nilq, std_notq, std_eqi, std_eqn, std_eqb, std_eqs, std_eqv, std_cat, std_lst, std_rset, std_rcopy, std_shift, std_eqr, std_strOf, std_bytesOf, std_isB, std_zOf, zOf_int, std_isI, isI_int, std_getL, std_nmul, std_sOf, sOf_str, std_isS, isS_str, strOf_lit, lstOf_lit inj_eB, lstOf_lit inj_eZ, lstOf_lit inj_eBs, lstOf_lit inj_eS, isRow_lit, isB_lit, isRow_nil, lstOf_nil inj_eB, lstOf_nil inj_eZ, lstOf_nil inj_eBs, lstOf_nil inj_eS, lstOf_lit inj_eI] at *)
  all_goals (have hsh : (oSh p r c = true ∧ oSh p' r' c' = true) ∧ mSh T L = true := by assumption)
  all_goals (have s1 := oSh_iff.1 hsh.1.1)
  all_goals (have s2 := oSh_iff.1 hsh.1.2)
  all_goals (have sm := mSh_iff.1 hsh.2)
  all_goals (have hS := fun i => Nat.le_trans (mSh_getD hsh.2 i) (show 1200 ≤ 1000000 by decide))
  all_goals first
    | omega
    | exact ⟨ha, hs, by omega, by omega, by omega⟩
    | exact ⟨ha', hs', by omega, by omega, by omega⟩
    | exact ⟨by omega, hS⟩
    | (have hb := dE_bad (by assumption : ¬dE T L = 0)
       exact ⟨hb.1, hb.2.2.2.1, hb.2.1, hb.2.2.1, hb.2.2.2.2.1, hb.2.2.2.2.2⟩)
    | (have he : dE T L = 0 := by assumption
       have g := d_good he
       have gl := dR_len g.1
       have gw := dw_yes g.1
       first
         | exact ⟨⟨g.2.2.2.1, by omega⟩, ⟨g.2.2.2.2, by omega⟩, by omega, by omega, by omega⟩
         | (rw [gw.1, gw.2.1, gw.2.2, g.1, g.2.1, g.2.2.1]; simp; done)
         | (simp [gw.1, gw.2.1, gw.2.2, g.1, g.2.1, g.2.2.1]
            first
              | done
              | omega
              | trace_state))
    | (have hz : dWe k a s p r c = 0 := by assumption
       have hd := dWe_R hz
       have hw := dw_yes hd
       have hb := d_back hd ha.1 hs.1
       have hR := dIs_R hd ha.1 hs.1
       have hv := fun i => Nat.le_trans (val_len hR i) (show 999 ≤ 1000000 by decide)
       have hl : (dIs k a s p r c).length ≤ 5 := by rw [dIs_len]; exact (fOf_len k).2
       simp only [hw.1, hw.2.1, hw.2.2, hb.1, hb.2.1, hb.2.2.1, hb.2.2.2.1, hb.2.2.2.2.1, hb.2.2.2.2.2.1, hb.2.2.2.2.2.2, hR] at *
       first
         | exact ⟨Nat.le_trans hl (by decide), hv⟩
         | (simp [-List.getD_eq_getElem?_getD] at hc ⊢
            first
              | done
              | omega
              | exact ⟨Nat.le_trans hl (by decide), hv⟩
              | (have hd' := dWe_R hc.1
                 have hw' := dw_yes hd'
                 refine hc.2 ?_
                 rw [hw'.1, hw'.2.1, Bool.eq_iff_iff]
                 simp
                 exact dd_two hd hd' ha.1 hs.1 ha'.1 hs'.1)
              | exact fun h => ⟨by omega, by omega⟩
              | trace_state))
    | trace_state
end Go.Vd
