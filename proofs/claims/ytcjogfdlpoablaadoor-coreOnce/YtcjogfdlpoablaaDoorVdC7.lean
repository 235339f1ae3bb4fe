/- The core's laws: CoreSteps. -/
import Derived.Test.YtcjogfdlpoablaaDoorVdC6
set_option linter.unusedVariables false
set_option linter.unusedSimpArgs false
set_option maxRecDepth 100000
set_option maxHeartbeats 8000000
namespace Go.Vd
open Go.Proofs
def KD (d : Dl) : Prop := d.s ≤ 999999 ∧ rr 37 d.r = true
def RA (d : Dl) (E : Ent) (x : Dl) : Prop := dRR x = true ∧ (x.s = d.s ∧ x.r = d.r) ∧ (x.k = 2 ∨ x.k = 4) ∧ (x.k = 2 → x.code = E.code ∨ x.code = [57, 52])
def RI (e : Ent) (d : Dl) (S : Stp) (x : Dl) : Prop := dRR x = true ∧ (x.s = d.s ∧ x.r = d.r) ∧ S.t = 1 ∧ (x.k = 1 ↔ e.st = 0) ∧ x.pan = S.e.pan ∧ x.am = S.e.am
def GS (e : Ent) (d : Dl) (S : Stp) : Prop :=
  (S.e = E0 ∨ (eR S.e = true ∧ S.e.s = d.s ∧ S.e.r = d.r)) ∧ S.i.length ≤ 1 ∧ S.a.length ≤ 2 ∧ (0 < e.st → S.e.pan = e.pan ∧ S.e.am = e.am ∧ (¬e.code = [] → S.e.code = e.code)) ∧
  (∀ x ∈ S.a, RA d S.e x) ∧ (∀ x ∈ S.i, RI e d S x) ∧ (S.rc = true → S.e.st = 6 ∧ e.st = 4)
theorem gA {d : Dl} {c : List UInt8} (h : KD d) (hc : rr 39 c = true) : dRR (tA d c) = true := by simp [dRR, tA, dR, dAsks, h.1, h.2, hc]
theorem gU {d : Dl} {c : List UInt8} (h : KD d) (hc : rr 39 c = true) : dRR (tU d c) = true := by simp [dRR, tU, dR, dAsks, h.1, h.2, hc]
def eP (pan : List UInt8) (am : Int) : Prop := (pan.length : Int) ≤ 19 ∧ lFine pan = true ∧ am < 1000000000000
theorem gI {k : Int} {d : Dl} {pan : List UInt8} {am : Int} (h : KD d) (hk : k = 1 ∨ k = 5 ∨ k = 6) (hp : eP pan am) : dRR ⟨k, pan, am, d.s, d.r, []⟩ = true := by
  obtain ⟨h1, h2, h3⟩ := hp
  rcases hk with rfl | rfl | rfl <;> simp [dRR, dR, dAsks, h.1, h.2, h1, h2, h3]
theorem keyOk_rr (s : Int) (r : List UInt8) : keyOk s r = (decide (s ≤ 999999) && rr 37 r) := by
  have h37 : dFind FL 37 = some (2, 12) := rfl
  have e1 : dOk 37 = true := by simp [dOk, h37]
  have e2 : dKd 37 = 2 := by simp [dKd, h37]
  have e3 : dSz 37 = 12 := by simp [dSz, h37]
  unfold keyOk
  rw [rr_fix e1 (by omega), e2, e3]
  have : decide ((r.length : Int) = 12) = decide (r.length = 12) := by rw [Bool.eq_iff_iff]; simp; omega
  rw [this]
  rfl
theorem dRR_key {d : Dl} (h : dRR d = true) : KD d := by
  unfold dRR dR at h
  simp only [Bool.and_eq_true, decide_eq_true_eq] at h
  exact ⟨h.2.1, h.2.2.1⟩
theorem vR_key {v : Int} {d : Dl} (h : vR v d = true) : KD d := by
  unfold vR at h
  split at h
  · simp only [Bool.and_eq_true, decide_eq_true_eq] at h
    have := h.2.2.2.2
    rw [keyOk_rr] at this
    simp only [Bool.and_eq_true, decide_eq_true_eq] at this
    exact this
  · simp only [Bool.and_eq_true] at h
    exact dRR_key h.2.2
theorem vR_ask {v : Int} {d : Dl} (h : vR v d = true) (hv : v = 1 ∨ v = 3) : eP d.pan d.am := by
  unfold vR at h
  rw [if_neg (by omega)] at h
  simp only [Bool.and_eq_true, decide_eq_true_eq] at h
  have h2 := h.2.2
  have hk : d.k = 1 ∨ d.k = 3 := by
    rw [h.2.1]
    rcases hv with rfl | rfl
    · exact .inl rfl
    · exact .inr rfl
  have ha : dAsks d.k = true := by rcases hk with hk | hk <;> rw [hk] <;> rfl
  unfold dRR dR at h2
  rw [if_pos ha] at h2
  simp only [Bool.and_eq_true, decide_eq_true_eq] at h2
  exact ⟨h2.2.2.2.2.1, h2.2.2.2.1, h2.2.2.2.2.2.1⟩
theorem vR_ans {d : Dl} (h : vR 2 d = true) : rr 39 d.code = true := by
  unfold vR at h
  rw [if_neg (by decide)] at h
  simp only [Bool.and_eq_true, decide_eq_true_eq] at h
  have h2 := h.2.2
  have ha : ¬dAsks d.k = true := by rw [h.2.1]; decide
  unfold dRR dR at h2
  rw [if_neg ha] at h2
  simp only [Bool.and_eq_true, decide_eq_true_eq] at h2
  exact h2.2.2.2.1
theorem eR_P {e : Ent} (h : eR e = true) : keyOk e.s e.r = true ∧ eP e.pan e.am ∧ eSt e = true := by
  unfold eR at h
  simp only [Bool.and_eq_true, decide_eq_true_eq] at h
  exact ⟨h.1, ⟨h.2.1, h.2.2.1, h.2.2.2.1⟩, h.2.2.2.2⟩
theorem eR_mk {e : Ent} (h1 : keyOk e.s e.r = true) (h2 : eP e.pan e.am) (h3 : eSt e = true) : eR e = true := by
  unfold eR
  rw [h1, decide_eq_true h2.1, h2.2.1, decide_eq_true h2.2.2, h3]
  rfl
theorem eSt_cases {e : Ent} (h : eSt e = true) : (e.st = 1 ∧ e.code = [] ∧ e.tr = 0 ∧ e.ca = 0) ∨ (e.st = 2 ∧ e.code = [48, 48] ∧ e.tr = 0 ∧ e.ca = 0) ∨ (e.st = 3 ∧ ¬e.code = [48, 48] ∧ rr 39 e.code = true ∧ e.tr = 0 ∧ e.ca = 0) ∨ ((e.st = 4 ∨ e.st = 5 ∨ e.st = 6) ∧ rr 39 e.code = true ∧ (e.ca = 1 ∨ e.ca = 2) ∧ 0 ≤ e.tr ∧ e.tr ≤ 16) := by
  unfold eSt at h
  split at h
  · simp only [unT, Bool.and_eq_true, decide_eq_true_eq] at h
    exact .inl ⟨by assumption, h⟩
  · split at h
    · simp only [unT, Bool.and_eq_true, decide_eq_true_eq] at h
      exact .inr (.inl ⟨by assumption, h⟩)
    · split at h
      · simp only [unT, Bool.and_eq_true, decide_eq_true_eq] at h
        exact .inr (.inr (.inl ⟨by assumption, h⟩))
      · split at h
        · simp only [tuR, Bool.and_eq_true, Bool.or_eq_true, decide_eq_true_eq] at h
          exact .inr (.inr (.inr ⟨by assumption, h⟩))
        · cases h
theorem eSt_turn {e : Ent} (h : e.st = 4 ∨ e.st = 5 ∨ e.st = 6) (hc : rr 39 e.code = true) (ha : e.ca = 1 ∨ e.ca = 2) (ht : 0 ≤ e.tr ∧ e.tr ≤ 16) : eSt e = true := by
  unfold eSt
  rw [if_neg (by omega), if_neg (by omega), if_neg (by omega), if_pos h, hc]
  simp [tuR, ha, ht]
theorem c94 : rr 39 [57, 52] = true ∧ rr 39 [49, 55] = true ∧ rr 39 [48, 48] = true ∧ rr 39 [50, 53] = true ∧ rr 39 [54, 56] = true := by decide +kernel
theorem gs_same {e : Ent} {d : Dl} {a : List Dl} (hr : e = E0 ∨ (eR e = true ∧ e.s = d.s ∧ e.r = d.r)) (ha : a.length ≤ 2) (hx : ∀ x ∈ a, RA d e x) {t : Int} : GS e d ⟨e, a, [], t, false⟩ :=
  ⟨hr, by simp, ha, fun _ => ⟨rfl, rfl, fun _ => rfl⟩, hx, fun x hx => (by cases hx), fun h => by cases h⟩
theorem ra_A {d : Dl} {E : Ent} {c : List UInt8} (h : KD d) (hc : rr 39 c = true) (he : c = E.code ∨ c = [57, 52]) : RA d E (tA d c) := ⟨gA h hc, ⟨rfl, rfl⟩, .inl rfl, fun _ => he⟩
theorem ra_U {d : Dl} {E : Ent} {c : List UInt8} (h : KD d) (hc : rr 39 c = true) : RA d E (tU d c) := ⟨gU h hc, ⟨rfl, rfl⟩, .inr rfl, fun e => by cases e⟩
theorem one_mem {P : Dl → Prop} {x : Dl} (h : P x) : ∀ y ∈ [x], P y := fun y hy => by rw [List.mem_singleton.1 hy]; exact h
theorem core_steps {e : Ent} {v : Int} {d : Dl} {n : Int} (h0 : stpE e v d n = 0) : GS e d (stp e v d n) := by
  obtain ⟨h1, h2, h3, h4, h5⟩ := stpE_ok h0
  rw [h1]
  have hK := vR_key h2
  have hF : e = E0 ∨ (eR e = true ∧ e.s = d.s ∧ e.r = d.r) := by
    unfold rF at h3
    simpa only [Bool.or_eq_true, Bool.and_eq_true, decide_eq_true_eq] using h3
  obtain ⟨c1, c2, c3, c4, c5⟩ := c94
  by_cases hE : e = E0
  · have hst : e.st = 0 := by rw [hE]; rfl
    rcases vR_five h2 with rfl | rfl | rfl | rfl | rfl
    · have hP := vR_ask h2 (.inl rfl)
      have hs : stpK e 1 d n = ⟨⟨d.s, d.r, 1, d.pan, d.am, [], 0, 0⟩, [], [⟨1, d.pan, d.am, d.s, d.r, []⟩], 1, false⟩ := by simp [stpK, stAsk, hE]
      rw [hs]
      refine ⟨.inr ⟨eR_mk (by rw [keyOk_rr, decide_eq_true hK.1, hK.2]; rfl) hP (by simp [eSt, unT]), rfl, rfl⟩, by simp, by simp, fun h => by omega, fun x hx => (by cases hx), one_mem ⟨gI hK (.inl rfl) hP, ⟨rfl, rfl⟩, rfl, ⟨fun _ => hst, fun _ => rfl⟩, rfl, rfl⟩, fun h => by cases h⟩
    · have hs : stpK e 2 d n = ⟨e, [], [], 0, false⟩ := by simp [stpK, stAns, hst]
      rw [hs]
      exact gs_same hF (by simp) (fun x hx => by cases hx)
    · have hs : stpK e 3 d n = ⟨e, [tU d [50, 53]], [], 0, false⟩ := by simp [stpK, stUndo, hE]
      rw [hs]
      exact gs_same hF (by simp) (one_mem (ra_U hK c4))
    · have hs : stpK e 4 d n = ⟨e, [], [], 0, false⟩ := by simp [stpK, stTime, hst]
      rw [hs]
      exact gs_same hF (by simp) (fun x hx => by cases hx)
    · have hs : stpK e 5 d n = ⟨e, [], [], 0, false⟩ := by simp [stpK, stAck, hst]
      rw [hs]
      exact gs_same hF (by simp) (fun x hx => by cases hx)
  · have hR : eR e = true ∧ e.s = d.s ∧ e.r = d.r := by
      rcases hF with h | h
      · exact absurd h hE
      · exact h
    obtain ⟨hk, hP, hS⟩ := eR_P hR.1
    have hC := eSt_cases hS
    have hns : ¬e.st = 0 := by omega
    have hrr : ¬e.st = 1 → rr 39 e.code = true := fun h => by
      rcases hC with h' | h' | h' | h'
      · omega
      · rw [h'.2.1]; exact c3
      · exact h'.2.2.1
      · exact h'.2.1
    have fwd : ∀ {k : Int} {S : Stp}, (k = 5 ∨ k = 6) → S.t = 1 → S.e.pan = e.pan → S.e.am = e.am → RI e d S (tI k e d) := @fun k S hk ht hp ha => ⟨gI hK (.inr hk) hP, ⟨rfl, rfl⟩, ht, ⟨fun h => absurd (show k = 1 from h) (by omega), fun h => absurd h hns⟩, hp.symm, ha.symm⟩
    rcases vR_five h2 with rfl | rfl | rfl | rfl | rfl
    · by_cases ho : oddE e d = true
      · have hs : stpK e 1 d n = ⟨e, [tA d [57, 52]], [], 0, false⟩ := by simp [stpK, stAsk, hE, ho]
        rw [hs]
        exact gs_same hF (by simp) (one_mem (ra_A hK c1 (.inr rfl)))
      · by_cases h6 : e.st = 1
        · have hs : stpK e 1 d n = ⟨e, [], [], 0, false⟩ := by simp [stpK, stAsk, hE, ho, h6]
          rw [hs]
          exact gs_same hF (by simp) (fun x hx => by cases hx)
        · have hs : stpK e 1 d n = ⟨e, [tA d e.code], [], 0, false⟩ := by simp [stpK, stAsk, hE, ho, h6]
          rw [hs]
          exact gs_same hF (by simp) (one_mem (ra_A hK (hrr h6) (.inl rfl)))
    · by_cases h6 : e.st = 1
      · have hs : stpK e 2 d n = ⟨{ e with st := if d.code = [48, 48] then 2 else 3, code := d.code }, [tA d d.code], [], 2, false⟩ := by simp [stpK, stAns, h6]
        have hd := vR_ans h2
        have hu : e.code = [] ∧ e.tr = 0 ∧ e.ca = 0 := by
          rcases hC with h' | h' | h' | h'
          · exact h'.2
          · omega
          · omega
          · omega
        rw [hs]
        refine ⟨.inr ⟨eR_mk hk hP ?_, hR.2.1, hR.2.2⟩, by simp, by simp, fun _ => ⟨rfl, rfl, fun h => absurd hu.1 h⟩, one_mem (ra_A hK hd (.inl rfl)), fun x hx => (by cases hx), fun h => by cases h⟩
        by_cases hc : d.code = [48, 48]
        · simp [eSt, hc, unT, hu.2.1, hu.2.2]
        · simp [eSt, hc, unT, hu.2.1, hu.2.2, hd]
      · have hs : stpK e 2 d n = ⟨e, [], [], 0, false⟩ := by simp [stpK, stAns, h6]
        rw [hs]
        exact gs_same hF (by simp) (fun x hx => by cases hx)
    · by_cases ho : oddE e d = true
      · have hs : stpK e 3 d n = ⟨e, [tU d [57, 52]], [], 0, false⟩ := by simp [stpK, stUndo, hE, ho]
        rw [hs]
        exact gs_same hF (by simp) (one_mem (ra_U hK c1))
      · by_cases h6 : e.st = 1
        · have hs : stpK e 3 d n = ⟨rev e [49, 55] 2, [tA d [49, 55], tU d [48, 48]], [tI 5 e d], 1, false⟩ := by simp [stpK, stUndo, hE, ho, h6]
          have hu : e.code = [] ∧ e.tr = 0 ∧ e.ca = 0 := by
            rcases hC with h' | h' | h' | h'
            · exact h'.2
            · omega
            · omega
            · omega
          rw [hs]
          refine ⟨.inr ⟨eR_mk hk hP (eSt_turn (.inl rfl) c2 (.inr rfl) (by show 0 ≤ e.tr ∧ e.tr ≤ 16; omega)), hR.2.1, hR.2.2⟩, by simp, by simp, fun _ => ⟨rfl, rfl, fun h => absurd hu.1 h⟩, ?_, one_mem (fwd (.inl rfl) rfl rfl rfl), fun h => by cases h⟩
          intro x hx
          rcases List.mem_cons.1 hx with rfl | hx
          · exact ra_A hK c2 (.inl rfl)
          · rw [List.mem_singleton.1 hx]; exact ra_U hK c3
        · by_cases h7 : e.st = 2
          · have hs : stpK e 3 d n = ⟨rev e e.code 2, [tU d [48, 48]], [tI 5 e d], 1, false⟩ := by simp [stpK, stUndo, hE, ho, h7]
            have hu : e.tr = 0 := by
              rcases hC with h' | h' | h' | h'
              · omega
              · exact h'.2.2.1
              · omega
              · omega
            rw [hs]
            exact ⟨.inr ⟨eR_mk hk hP (eSt_turn (.inl rfl) (hrr h6) (.inr rfl) (by show 0 ≤ e.tr ∧ e.tr ≤ 16; omega)), hR.2.1, hR.2.2⟩, by simp, by simp, fun _ => ⟨rfl, rfl, fun _ => rfl⟩, one_mem (ra_U hK c3), one_mem (fwd (.inl rfl) rfl rfl rfl), fun h => by cases h⟩
          · have hs : stpK e 3 d n = ⟨e, [tU d [48, 48]], [], 0, false⟩ := by simp [stpK, stUndo, hE, ho, h6, h7]
            rw [hs]
            exact gs_same hF (by simp) (one_mem (ra_U hK c3))
    · by_cases h6 : e.st = 1
      · have hs : stpK e 4 d n = ⟨rev e [54, 56] 1, [tA d [54, 56]], [tI 5 e d], 1, false⟩ := by simp [stpK, stTime, h6]
        have hu : e.code = [] ∧ e.tr = 0 ∧ e.ca = 0 := by
          rcases hC with h' | h' | h' | h'
          · exact h'.2
          · omega
          · omega
          · omega
        rw [hs]
        exact ⟨.inr ⟨eR_mk hk hP (eSt_turn (.inl rfl) c5 (.inl rfl) (by show 0 ≤ e.tr ∧ e.tr ≤ 16; omega)), hR.2.1, hR.2.2⟩, by simp, by simp, fun _ => ⟨rfl, rfl, fun h => absurd hu.1 h⟩, one_mem (ra_A hK c5 (.inl rfl)), one_mem (fwd (.inl rfl) rfl rfl rfl), fun h => by cases h⟩
      · by_cases h7 : e.st = 4
        · have hu : rr 39 e.code = true ∧ (e.ca = 1 ∨ e.ca = 2) ∧ 0 ≤ e.tr ∧ e.tr ≤ 16 := by
            rcases hC with h' | h' | h' | h'
            · omega
            · omega
            · omega
            · exact h'.2
          by_cases h8 : e.tr < n
          · have hs : stpK e 4 d n = ⟨{ e with tr := e.tr + 1 }, [], [tI 6 e d], 1, false⟩ := by simp [stpK, stTime, h7, h8]
            rw [hs]
            exact ⟨.inr ⟨eR_mk hk hP (eSt_turn (.inl h7) hu.1 hu.2.1 (by show 0 ≤ e.tr + 1 ∧ e.tr + 1 ≤ 16; omega)), hR.2.1, hR.2.2⟩, by simp, by simp, fun _ => ⟨rfl, rfl, fun _ => rfl⟩, fun x hx => (by cases hx), one_mem (fwd (.inr rfl) rfl rfl rfl), fun h => by cases h⟩
          · have hs : stpK e 4 d n = ⟨{ e with st := 6 }, [], [], 0, true⟩ := by simp [stpK, stTime, h7, h8]
            rw [hs]
            exact ⟨.inr ⟨eR_mk hk hP (eSt_turn (.inr (.inr rfl)) hu.1 hu.2.1 hu.2.2), hR.2.1, hR.2.2⟩, by simp, by simp, fun _ => ⟨rfl, rfl, fun _ => rfl⟩, fun x hx => (by cases hx), fun x hx => (by cases hx), fun _ => ⟨rfl, h7⟩⟩
        · have hs : stpK e 4 d n = ⟨e, [], [], 0, false⟩ := by simp [stpK, stTime, h6, h7]
          rw [hs]
          exact gs_same hF (by simp) (fun x hx => by cases hx)
    · have tu : (e.st = 4 ∨ e.st = 6) → rr 39 e.code = true ∧ (e.ca = 1 ∨ e.ca = 2) ∧ 0 ≤ e.tr ∧ e.tr ≤ 16 := fun h => by
        rcases hC with h' | h' | h' | h'
        · omega
        · omega
        · omega
        · exact h'.2
      by_cases h6 : e.st = 4
      · have hs : stpK e 5 d n = ⟨{ e with st := 5 }, [], [], 2, false⟩ := by simp [stpK, stAck, h6]
        have hu := tu (.inl h6)
        rw [hs]
        exact ⟨.inr ⟨eR_mk hk hP (eSt_turn (.inr (.inl rfl)) hu.1 hu.2.1 hu.2.2), hR.2.1, hR.2.2⟩, by simp, by simp, fun _ => ⟨rfl, rfl, fun _ => rfl⟩, fun x hx => (by cases hx), fun x hx => (by cases hx), fun h => by cases h⟩
      · by_cases h7 : e.st = 6
        · have hs : stpK e 5 d n = ⟨{ e with st := 5 }, [], [], 0, false⟩ := by simp [stpK, stAck, h7]
          have hu := tu (.inr h7)
          rw [hs]
          exact ⟨.inr ⟨eR_mk hk hP (eSt_turn (.inr (.inl rfl)) hu.1 hu.2.1 hu.2.2), hR.2.1, hR.2.2⟩, by simp, by simp, fun _ => ⟨rfl, rfl, fun _ => rfl⟩, fun x hx => (by cases hx), fun x hx => (by cases hx), fun h => by cases h⟩
        · have hs : stpK e 5 d n = ⟨e, [], [], 0, false⟩ := by simp [stpK, stAck, h6, h7]
          rw [hs]
          exact gs_same hF (by simp) (fun x hx => by cases hx)
theorem stp_S0 {e : Ent} {v : Int} {d : Dl} {n : Int} (h : ¬stpE e v d n = 0) : stp e v d n = S0 := by
  unfold stpE at h
  unfold stp
  split at h
  · exact absurd rfl h
  · rename_i hk
    exact if_neg hk
theorem rr_len39 {c : List UInt8} (h : rr 39 c = true) : c.length ≤ 100 := by
  have h39 : dFind FL 39 = some (2, 2) := rfl
  have e1 : dOk 39 = true := by simp [dOk, h39]
  have e2 : dKd 39 = 2 := by simp [dKd, h39]
  have e3 : dSz 39 = 2 := by simp [dSz, h39]
  rw [rr_fix e1 (by omega), e3] at h
  simp only [Bool.and_eq_true, decide_eq_true_eq] at h
  omega
theorem rr_len37 {c : List UInt8} (h : rr 37 c = true) : c.length ≤ 100 := by
  have h37 : dFind FL 37 = some (2, 12) := rfl
  have e1 : dOk 37 = true := by simp [dOk, h37]
  have e2 : dKd 37 = 2 := by simp [dKd, h37]
  have e3 : dSz 37 = 12 := by simp [dSz, h37]
  rw [rr_fix e1 (by omega), e3] at h
  simp only [Bool.and_eq_true, decide_eq_true_eq] at h
  omega
theorem dRR_len {x : Dl} (h : dRR x = true) : x.pan.length ≤ 100000 ∧ x.r.length ≤ 1000000 ∧ x.code.length ≤ 1000000 := by
  unfold dRR dR at h
  simp only [Bool.and_eq_true, decide_eq_true_eq] at h
  have h37 := rr_len37 h.2.2.1
  have h4 := h.2.2.2
  split at h4
  · simp only [Bool.and_eq_true, decide_eq_true_eq] at h4
    have h5 : x.code = [] := by simpa using h4.2.2.2
    rw [h5]
    exact ⟨by omega, by omega, by simp⟩
  · simp only [Bool.and_eq_true, decide_eq_true_eq] at h4
    have h5 : x.pan = [] := by simpa using h4.2.1
    have := rr_len39 h4.1
    rw [h5]
    exact ⟨by simp, by omega, by omega⟩
theorem e8 {e : Ent} (h : e = E0) : e.s = 0 ∧ e.r = [] ∧ e.st = 0 ∧ e.pan = [] ∧ e.am = 0 ∧ e.code = [] ∧ e.tr = 0 ∧ e.ca = 0 := by rw [h]; exact ⟨rfl, rfl, rfl, rfl, rfl, rfl, rfl, rfl⟩
theorem n8 {a b c d e f g h : Prop} (H : ¬a ∨ ¬b ∨ ¬c ∨ ¬d ∨ ¬e ∨ ¬f ∨ ¬g ∨ ¬h) : ¬(a ∧ b ∧ c ∧ d ∧ e ∧ f ∧ g ∧ h) := by
  rintro ⟨h1, h2, h3, h4, h5, h6, h7, h8⟩
  rcases H with H | H | H | H | H | H | H | H <;> exact H (by assumption)
theorem lens_of {e : Ent} {P : Prop} (h : e = E0 ∨ (eR e = true ∧ P)) : e.pan.length ≤ 100000 ∧ e.code.length ≤ 1000000 := by
  rcases h with h | h
  · rw [h]; exact ⟨by decide, by decide⟩
  · obtain ⟨h1, h2, h3⟩ := eR_P h.1
    refine ⟨by have := h2.1; omega, ?_⟩
    rcases eSt_cases h3 with h' | h' | h' | h'
    · rw [h'.2.1]; decide
    · rw [h'.2.1]; decide
    · have := rr_len39 h'.2.2.1; omega
    · have := rr_len39 h'.2.1; omega
theorem mem_getD {L : List Dl} {i : Nat} {x : Dl} (h : i < L.length) : L.getD i x ∈ L := by
  rw [List.getD_eq_getElem?_getD, List.getElem?_eq_getElem h]
  exact List.getElem_mem h
theorem cs_head {S : Stp} {ds st am : Int} {dr pan code : List UInt8} (g1 : (S.e.s = 0 ∧ S.e.r = [] ∧ S.e.st = 0 ∧ S.e.pan = [] ∧ S.e.am = 0 ∧ S.e.code = [] ∧ S.e.tr = 0 ∧ S.e.ca = 0) ∨ (eR S.e = true ∧ S.e.s = ds ∧ S.e.r = dr)) (g2 : S.i.length ≤ 1) (g3 : S.a.length ≤ 2) (g4 : 0 < st → S.e.pan = pan ∧ S.e.am = am ∧ (¬code = [] → S.e.code = code))
    (hc : (((¬S.e.s = 0 ∨ ¬S.e.r = [] ∨ ¬S.e.st = 0 ∨ ¬S.e.pan = [] ∨ ¬S.e.am = 0 ∨ ¬S.e.code = [] ∨ ¬S.e.tr = 0 ∨ ¬S.e.ca = 0) ∧ (eR S.e = false ∨ ¬S.e.s = ds ∨ ¬S.e.r = dr) ∨ 1 < (S.i.length : Int)) ∨ 2 < (S.a.length : Int)) ∨ 0 < st ∧ ((¬S.e.pan = pan ∨ ¬S.e.am = am) ∨ ¬code = [] ∧ ¬S.e.code = code)) : False := by
  rcases hc with ((⟨h1, h2⟩ | h) | h) | ⟨h, h1⟩
  · rcases g1 with z | y
    · exact n8 h1 z
    · rcases h2 with h2 | h2 | h2
      · rw [y.1] at h2; cases h2
      · exact h2 y.2.1
      · exact h2 y.2.2
  · omega
  · omega
  · obtain ⟨q1, q2, q3⟩ := g4 h
    rcases h1 with (h1 | h1) | h1
    · exact h1 q1
    · exact h1 q2
    · exact h1.2 (q3 h1.1)
theorem good_CoreSteps (s st am tr ca v k dam ds n : Int) (r pan code dpan dr dcode : List UInt8) : GoodP Tryd.prog gl0 12 [.agg [.int .u32 s, .str r, .int .i64 st, .str pan, .int .u64 am, .str code, .int .i64 tr, .int .i64 ca], .agg [.int .i64 v, .int .i64 k, .str dpan, .int .u64 dam, .int .u32 ds, .str dr, .str dcode], .int .i64 n] (.bool true) := by
  refine fn_sound' (T := seatT) (G := gc8) (X := noX) seatT_ok gc8_ok noX_ok noI_ok mixed Tryd.func12 (.one) (fun A => [.agg [.int .u32 s, .str r, .int .i64 st, .str pan, .int .u64 am, .str code, .int .i64 tr, .int .i64 ca], .agg [.int .i64 v, .int .i64 k, .str dpan, .int .u64 dam, .int .u32 ds, .str dr, .str dcode], .int .i64 n]) (fun A => .bool true) fun A hA => ?_
  obtain ⟨S, hS⟩ : ∃ S, S = stp ⟨s, r, st, pan, am, code, tr, ca⟩ v ⟨k, dpan, dam, ds, dr, dcode⟩ n := ⟨_, rfl⟩
  have hS2 : stp ⟨s, r, st, pan, am, code, tr, ca⟩ v ⟨k, dpan, dam, ds, dr, dcode⟩ n = S := hS.symm
  have hG := @core_steps ⟨s, r, st, pan, am, code, tr, ca⟩ v ⟨k, dpan, dam, ds, dr, dcode⟩ n
  have hZ := @stp_S0 ⟨s, r, st, pan, am, code, tr, ca⟩ v ⟨k, dpan, dam, ds, dr, dcode⟩ n
  rw [hS2] at hG hZ
  clear hS
  cbv
  repeat' (first | with_reducible exact True.intro | with_reducible exact dr_ok hA (by kernel_rfl) | with_reducible refine And.intro ?_ ?_ | (intro hc; cbv))
  all_goals first
    | (fail_if_success (refine Exists.intro ?_ ?_)
       subst hA
       simp [-List.getD_eq_getElem?_getD, std_add, std_sub, std_mul, std_quo, std_rem, std_band, std_bor, std_bxor, std_shl, std_shr, std_eq, std_ne, std_lt, std_le, std_conv, std_not, std_beq, std_bne, std_ite, std_want, std_and2, std_sadd, std_seq, std_sne, std_slt, std_sle, std_sgt, std_sge, std_slen, std_sget, std_scut, std_ofNat, std_toNat, std_nsub, std_nadd, std_lenOf, std_nz, std_nneg, std_inb, std_upto, std_slt63, std_grow, std_imp, std_impN, std_tr, std_tb, std_ti, std_ts, std_tn, std_tp, std_nmin, std_makes, std_room, std_zeros, std_nilq, std_notq, std_eqi, std_eqn, std_eqb, std_eqs, std_eqv, std_cat, std_lst, std_rset, std_rcopy, std_shift, std_eqr, std_strOf, std_bytesOf, std_isB, std_zOf, zOf_int, std_isI, isI_int, std_getL, std_nmul, std_sOf, sOf_str, std_isS, isS_str, hS2, lstOf_lit inj_eD, isRow_lit] at *
       first
         | done
         | omega
         | exact ⟨⟨by omega, by omega⟩, by omega, by omega, by omega⟩
         | (have hn : ¬stpE ⟨s, r, st, pan, am, code, tr, ca⟩ v ⟨k, dpan, dam, ds, dr, dcode⟩ n = 0 := by assumption
            rw [hZ hn]
            first
              | exact ⟨by decide, by decide⟩
              | exact ⟨⟨rfl, rfl, rfl, rfl, rfl, rfl, rfl, rfl⟩, rfl, rfl, rfl, rfl⟩)
         | (have hy : stpE ⟨s, r, st, pan, am, code, tr, ca⟩ v ⟨k, dpan, dam, ds, dr, dcode⟩ n = 0 := by assumption
            have g1 := (hG hy).1
            have g2 := (hG hy).2.1
            have g3 := (hG hy).2.2.1
            have g4 := (hG hy).2.2.2.1
            have hl := lens_of g1
            have gi : (S.i.length : Int) ≤ 1 := by omega
            have ga : (S.a.length : Int) ≤ 2 := by omega
            replace g1 := g1.imp_left e8
            clear hG hZ
            first
              | exact fun h => ⟨h, hl⟩
              | exact fun h => ⟨h, fun h2 => ⟨h, h2⟩⟩
              | exact cs_head g1 g2 g3 g4 hc
              | exact fun _ => g1
              | exact fun _ _ => ⟨g1, gi⟩
              | exact fun _ _ _ => ⟨⟨g1, gi⟩, ga⟩
              | ((repeat' (first | assumption | (intro _) | (refine And.intro ?_ ?_))) <;> done)
              | trace_state)
         | trace_state)
    | skip
  have hy : stpE ⟨s, r, st, pan, am, code, tr, ca⟩ v ⟨k, dpan, dam, ds, dr, dcode⟩ n = 0 := by
    clear hG hZ
    subst hA
    simp [-List.getD_eq_getElem?_getD, std_add, std_sub, std_mul, std_quo, std_rem, std_band, std_bor, std_bxor, std_shl, std_shr, std_eq, std_ne, std_lt, std_le, std_conv, std_not, std_beq, std_bne, std_ite, std_want, std_and2, std_sadd, std_seq, std_sne, std_slt, std_sle, std_sgt, std_sge, std_slen, std_sget, std_scut, std_ofNat, std_toNat, std_nsub, std_nadd, std_lenOf, std_nz, std_nneg, std_inb, std_upto, std_slt63, std_grow, std_imp, std_impN, std_tr, std_tb, std_ti, std_ts, std_tn, std_tp, std_nmin, std_makes, std_room, std_zeros, std_nilq, std_notq, std_eqi, std_eqn, std_eqb, std_eqs, std_eqv, std_cat, std_lst, std_rset, std_rcopy, std_shift, std_eqr, std_strOf, std_bytesOf, std_isB, std_zOf, zOf_int, std_isI, isI_int, std_getL, std_nmul, std_sOf, sOf_str, std_isS, isS_str, hS2] at *
    assumption
  obtain ⟨g1, g2, g3, g4, g5, g6, g7⟩ := hG hy
  have hl := lens_of g1
  clear hG hZ
  refine ⟨⟨{i : Nat // i ≤ S.a.length}, fun b i => [(10, .int .i64 (i.1 : Nat))], fun b i => [], fun i => S.a.length - i.1, true⟩, ⟨⟨0, by omega⟩, ?_⟩, ?_⟩
  · cbv
    subst hA
    simp [-List.getD_eq_getElem?_getD, std_add, std_sub, std_mul, std_quo, std_rem, std_band, std_bor, std_bxor, std_shl, std_shr, std_eq, std_ne, std_lt, std_le, std_conv, std_not, std_beq, std_bne, std_ite, std_want, std_and2, std_sadd, std_seq, std_sne, std_slt, std_sle, std_sgt, std_sge, std_slen, std_sget, std_scut, std_ofNat, std_toNat, std_nsub, std_nadd, std_lenOf, std_nz, std_nneg, std_inb, std_upto, std_slt63, std_grow, std_imp, std_impN, std_tr, std_tb, std_ti, std_ts, std_tn, std_tp, std_nmin, std_makes, std_room, std_zeros, std_nilq, std_notq, std_eqi, std_eqn, std_eqb, std_eqs, std_eqv, std_cat, std_lst, std_rset, std_rcopy, std_shift, std_eqr, std_strOf, std_bytesOf, std_isB, std_zOf, zOf_int, std_isI, isI_int, std_getL, std_nmul, std_sOf, sOf_str, std_isS, isS_str]
  · rintro ⟨i, hi⟩
    cbv
    repeat' (first | with_reducible exact True.intro | with_reducible exact dr_ok hA (by kernel_rfl) | with_reducible refine And.intro ?_ ?_ | (intro hc; cbv))
    all_goals first
      | (fail_if_success (refine Exists.intro ?_ ?_)
         subst hA
         simp [-List.getD_eq_getElem?_getD, std_add, std_sub, std_mul, std_quo, std_rem, std_band, std_bor, std_bxor, std_shl, std_shr, std_eq, std_ne, std_lt, std_le, std_conv, std_not, std_beq, std_bne, std_ite, std_want, std_and2, std_sadd, std_seq, std_sne, std_slt, std_sle, std_sgt, std_sge, std_slen, std_sget, std_scut, std_ofNat, std_toNat, std_nsub, std_nadd, std_lenOf, std_nz, std_nneg, std_inb, std_upto, std_slt63, std_grow, std_imp, std_impN, std_tr, std_tb, std_ti, std_ts, std_tn, std_tp, std_nmin, std_makes, std_room, std_zeros, std_nilq, std_notq, std_eqi, std_eqn, std_eqb, std_eqs, std_eqv, std_cat, std_lst, std_rset, std_rcopy, std_shift, std_eqr, std_strOf, std_bytesOf, std_isB, std_zOf, zOf_int, std_isI, isI_int, std_getL, std_nmul, std_sOf, sOf_str, std_isS, isS_str, hS2, lstOf_lit inj_eD, isRow_lit] at *
         first
           | done
           | omega
           | (have hlt : i < S.a.length := by assumption
              have hx := g5 _ (mem_getD (x := ⟨0, [], 0, 0, [], []⟩) hlt)
              generalize S.a.getD i ⟨0, [], 0, 0, [], []⟩ = x at *
              have hdR : dR x.k x.am x.s x.pan x.r x.code = true := hx.1
              first
                | exact dRR_len hx.1
                | exact fun h1 h2 h3 _ => ⟨⟨h1, h2, h3⟩, hx.2.2.1⟩
                | (rcases hc with ((hc | hc) | hc) | hc
                   · rw [hdR] at hc; cases hc
                   · rcases hc with hc | hc
                     · exact hc hx.2.1.1
                     · exact hc hx.2.1.2
                   · rcases hx.2.2.1 with h | h
                     · exact hc.1 h
                     · exact hc.2 h
                   · rcases hx.2.2.2 hc.1.1 with h | h
                     · exact hc.1.2 h
                     · exact hc.2 h)
                | ((repeat' (first | assumption | (intro _) | (refine And.intro ?_ ?_))) <;> done)
                | trace_state)
           | trace_state)
      | (have hlt : i < S.a.length := by (subst hA; simp [-List.getD_eq_getElem?_getD, std_add, std_sub, std_mul, std_quo, std_rem, std_band, std_bor, std_bxor, std_shl, std_shr, std_eq, std_ne, std_lt, std_le, std_conv, std_not, std_beq, std_bne, std_ite, std_want, std_and2, std_sadd, std_seq, std_sne, std_slt, std_sle, std_sgt, std_sge, std_slen, std_sget, std_scut, std_ofNat, std_toNat, std_nsub, std_nadd, std_lenOf, std_nz, std_nneg, std_inb, std_upto, std_slt63, std_grow, std_imp, std_impN, std_tr, std_tb, std_ti, std_ts, std_tn, std_tp, std_nmin, std_makes, std_room, std_zeros, std_nilq, std_notq, std_eqi, std_eqn, std_eqb, std_eqs, std_eqv, std_cat, std_lst, std_rset, std_rcopy, std_shift, std_eqr, std_strOf, std_bytesOf, std_isB, std_zOf, zOf_int, std_isI, isI_int, std_getL, std_nmul, std_sOf, sOf_str, std_isS, isS_str, hS2] at * <;> assumption)
         obtain ⟨i', hi'⟩ : ∃ i', i' = i + 1 := ⟨_, rfl⟩
         refine ⟨⟨i', by omega⟩, ?_, show S.a.length - i' < S.a.length - i by omega⟩
         cbv
         subst hA
         simp [std_add, std_sub, std_mul, std_quo, std_rem, std_band, std_bor, std_bxor, std_shl, std_shr, std_eq, std_ne, std_lt, std_le, std_conv, std_not, std_beq, std_bne, std_ite, std_want, std_and2, std_sadd, std_seq, std_sne, std_slt, std_sle, std_sgt, std_sge, std_slen, std_sget, std_scut, std_ofNat, std_toNat, std_nsub, std_nadd, std_lenOf, std_nz, std_nneg, std_inb, std_upto, std_slt63, std_grow, std_imp, std_impN, std_tr, std_tb, std_ti, std_ts, std_tn, std_tp, std_nmin, std_makes, std_room, std_zeros, std_nilq, std_notq, std_eqi, std_eqn, std_eqb, std_eqs, std_eqv, std_cat, std_lst, std_rset, std_rcopy, std_shift, std_eqr, std_strOf, std_bytesOf, std_isB, std_zOf, zOf_int, std_isI, isI_int, std_getL, std_nmul, std_sOf, sOf_str, std_isS, isS_str]
         exact (w64 (by omega)).trans (by omega))
      | skip
    refine ⟨⟨{j : Nat // j ≤ S.i.length}, fun b j => [(12, .int .i64 (j.1 : Nat))], fun b j => [], fun j => S.i.length - j.1, true⟩, ⟨⟨0, by omega⟩, ?_⟩, ?_⟩
    · cbv
      subst hA
      simp [-List.getD_eq_getElem?_getD, std_add, std_sub, std_mul, std_quo, std_rem, std_band, std_bor, std_bxor, std_shl, std_shr, std_eq, std_ne, std_lt, std_le, std_conv, std_not, std_beq, std_bne, std_ite, std_want, std_and2, std_sadd, std_seq, std_sne, std_slt, std_sle, std_sgt, std_sge, std_slen, std_sget, std_scut, std_ofNat, std_toNat, std_nsub, std_nadd, std_lenOf, std_nz, std_nneg, std_inb, std_upto, std_slt63, std_grow, std_imp, std_impN, std_tr, std_tb, std_ti, std_ts, std_tn, std_tp, std_nmin, std_makes, std_room, std_zeros, std_nilq, std_notq, std_eqi, std_eqn, std_eqb, std_eqs, std_eqv, std_cat, std_lst, std_rset, std_rcopy, std_shift, std_eqr, std_strOf, std_bytesOf, std_isB, std_zOf, zOf_int, std_isI, isI_int, std_getL, std_nmul, std_sOf, sOf_str, std_isS, isS_str]
    · rintro ⟨j, hj⟩
      cbv
      repeat' (first | with_reducible exact True.intro | with_reducible exact dr_ok hA (by kernel_rfl) | with_reducible refine And.intro ?_ ?_ | (intro hc; cbv))
      all_goals first
        | (fail_if_success (refine Exists.intro ?_ ?_)
           subst hA
           simp [-List.getD_eq_getElem?_getD, std_add, std_sub, std_mul, std_quo, std_rem, std_band, std_bor, std_bxor, std_shl, std_shr, std_eq, std_ne, std_lt, std_le, std_conv, std_not, std_beq, std_bne, std_ite, std_want, std_and2, std_sadd, std_seq, std_sne, std_slt, std_sle, std_sgt, std_sge, std_slen, std_sget, std_scut, std_ofNat, std_toNat, std_nsub, std_nadd, std_lenOf, std_nz, std_nneg, std_inb, std_upto, std_slt63, std_grow, std_imp, std_impN, std_tr, std_tb, std_ti, std_ts, std_tn, std_tp, std_nmin, std_makes, std_room, std_zeros, std_nilq, std_notq, std_eqi, std_eqn, std_eqb, std_eqs, std_eqv, std_cat, std_lst, std_rset, std_rcopy, std_shift, std_eqr, std_strOf, std_bytesOf, std_isB, std_zOf, zOf_int, std_isI, isI_int, std_getL, std_nmul, std_sOf, sOf_str, std_isS, isS_str, hS2, lstOf_lit inj_eD, isRow_lit] at *
           first
             | done
             | omega
             | (have hlt : j < S.i.length := by assumption
                have hx := g6 _ (mem_getD (x := ⟨0, [], 0, 0, [], []⟩) hlt)
                generalize S.i.getD j ⟨0, [], 0, 0, [], []⟩ = x at *
                have hdR : dR x.k x.am x.s x.pan x.r x.code = true := hx.1
                first
                  | exact dRR_len hx.1
                  | (rcases hc with ((((hc | hc) | hc) | hc) | hc) | hc
                     · rw [hdR] at hc; cases hc
                     · rcases hc with hc | hc
                       · exact hc hx.2.1.1
                       · exact hc hx.2.1.2
                     · exact hc hx.2.2.1
                     · apply hc; rw [Bool.eq_iff_iff]; simpa using hx.2.2.2.1
                     · exact hc hx.2.2.2.2.1
                     · exact hc hx.2.2.2.2.2)
                  | ((repeat' (first | assumption | (intro _) | (refine And.intro ?_ ?_))) <;> done)
                  | trace_state)
             | exact fun h => ⟨h, fun h2 => ⟨h, h2⟩⟩
             | (cases hr : S.rc
                · exact .inl rfl
                · exact .inr (g7 hr))
             | trace_state)
        | (have hlt : j < S.i.length := by (subst hA; simp [-List.getD_eq_getElem?_getD, std_add, std_sub, std_mul, std_quo, std_rem, std_band, std_bor, std_bxor, std_shl, std_shr, std_eq, std_ne, std_lt, std_le, std_conv, std_not, std_beq, std_bne, std_ite, std_want, std_and2, std_sadd, std_seq, std_sne, std_slt, std_sle, std_sgt, std_sge, std_slen, std_sget, std_scut, std_ofNat, std_toNat, std_nsub, std_nadd, std_lenOf, std_nz, std_nneg, std_inb, std_upto, std_slt63, std_grow, std_imp, std_impN, std_tr, std_tb, std_ti, std_ts, std_tn, std_tp, std_nmin, std_makes, std_room, std_zeros, std_nilq, std_notq, std_eqi, std_eqn, std_eqb, std_eqs, std_eqv, std_cat, std_lst, std_rset, std_rcopy, std_shift, std_eqr, std_strOf, std_bytesOf, std_isB, std_zOf, zOf_int, std_isI, isI_int, std_getL, std_nmul, std_sOf, sOf_str, std_isS, isS_str, hS2] at * <;> assumption)
           obtain ⟨i', hi'⟩ : ∃ i', i' = j + 1 := ⟨_, rfl⟩
           refine ⟨⟨i', by omega⟩, ?_, show S.i.length - i' < S.i.length - j by omega⟩
           cbv
           subst hA
           simp [std_add, std_sub, std_mul, std_quo, std_rem, std_band, std_bor, std_bxor, std_shl, std_shr, std_eq, std_ne, std_lt, std_le, std_conv, std_not, std_beq, std_bne, std_ite, std_want, std_and2, std_sadd, std_seq, std_sne, std_slt, std_sle, std_sgt, std_sge, std_slen, std_sget, std_scut, std_ofNat, std_toNat, std_nsub, std_nadd, std_lenOf, std_nz, std_nneg, std_inb, std_upto, std_slt63, std_grow, std_imp, std_impN, std_tr, std_tb, std_ti, std_ts, std_tn, std_tp, std_nmin, std_makes, std_room, std_zeros, std_nilq, std_notq, std_eqi, std_eqn, std_eqb, std_eqs, std_eqv, std_cat, std_lst, std_rset, std_rcopy, std_shift, std_eqr, std_strOf, std_bytesOf, std_isB, std_zOf, zOf_int, std_isI, isI_int, std_getL, std_nmul, std_sOf, sOf_str, std_isS, isS_str]
           exact (w64 (by omega)).trans (by omega))
        | trace_state
end Go.Vd
