/- A row that nobody writes any more. -/
import Derived.Test.YtnndgblnbhlplaaVdDraw
set_option linter.unusedVariables false
set_option linter.unusedSimpArgs false
namespace Go.Vd
open Go.RowKit

section
variable {P : Program} {a : Act} {w : World} {ρ : Nat → Value} {U : Nat → Prop} {c : Ctx} {s : St}

def frzB (m : Mem) (q : Nat) : Blk → Blk
  | .box t l => .box t (frzL std m q l)
  | b => b

/-- A row, or a row of rows. -/
def isRowB : Blk → Bool
  | .box _ _ | .kmap _ _ _ => false
  | _ => true
theorem frzB_kid {m : Mem} {q : Nat} {b : Blk} {ρ : Nat → Value} (g : Nat) : kidB ρ (frzB m q b) g ↔ kidB ρ b g := by cases b <;> exact Iff.rfl
theorem mem_frzM {m : Mem} {q : Nat} {e : Nat × Blk} : ∀ {r : Mem}, e ∈ frzM std m q r → ∃ b, (e.1, b) ∈ r ∧ e.2 = frzB m q b ∧ (isRowB b = true → e.1 ≠ q)
  | [], h => by cases h
  | (k, .box t l) :: r, h => by
    simp only [frzM] at h
    rcases List.mem_cons.1 h with rfl | h
    · exact ⟨.box t l, List.mem_cons_self .., rfl, fun e => by cases e⟩
    · obtain ⟨b, h1, h2, h3⟩ := mem_frzM h
      exact ⟨b, List.mem_cons_of_mem _ h1, h2, h3⟩
  | (k, .kmap t v M) :: r, h => by
    simp only [frzM] at h
    rcases List.mem_cons.1 h with rfl | h
    · exact ⟨.kmap t v M, List.mem_cons_self .., rfl, fun e => by cases e⟩
    · obtain ⟨b, h1, h2, h3⟩ := mem_frzM h
      exact ⟨b, List.mem_cons_of_mem _ h1, h2, h3⟩
  | (k, .row x y z u) :: r, h => by
    simp only [frzM] at h
    cases hb : Nat.beq k q <;> simp only [hb, cond_true, cond_false] at h
    · rcases List.mem_cons.1 h with rfl | h
      · exact ⟨.row x y z u, List.mem_cons_self .., rfl, fun _ e => by simp only at e; subst e; rw [Nat.beq_refl] at hb; cases hb⟩
      · obtain ⟨b, h1, h2, h3⟩ := mem_frzM h
        exact ⟨b, List.mem_cons_of_mem _ h1, h2, h3⟩
    · obtain ⟨b, h1, h2, h3⟩ := mem_frzM h
      exact ⟨b, List.mem_cons_of_mem _ h1, h2, h3⟩
  | (k, .krow x K) :: r, h => by
    simp only [frzM] at h
    cases hb : Nat.beq k q <;> simp only [hb, cond_true, cond_false] at h
    · rcases List.mem_cons.1 h with rfl | h
      · exact ⟨.krow x K, List.mem_cons_self .., rfl, fun _ e => by simp only at e; subst e; rw [Nat.beq_refl] at hb; cases hb⟩
      · obtain ⟨b, h1, h2, h3⟩ := mem_frzM h
        exact ⟨b, List.mem_cons_of_mem _ h1, h2, h3⟩
    · obtain ⟨b, h1, h2, h3⟩ := mem_frzM h
      exact ⟨b, List.mem_cons_of_mem _ h1, h2, h3⟩
  | (k, .kids K) :: r, h => by
    simp only [frzM] at h
    cases hb : Nat.beq k q <;> simp only [hb, cond_true, cond_false] at h
    · rcases List.mem_cons.1 h with rfl | h
      · exact ⟨.kids K, List.mem_cons_self .., rfl, fun _ e => by simp only at e; subst e; rw [Nat.beq_refl] at hb; cases hb⟩
      · obtain ⟨b, h1, h2, h3⟩ := mem_frzM h
        exact ⟨b, List.mem_cons_of_mem _ h1, h2, h3⟩
    · obtain ⟨b, h1, h2, h3⟩ := mem_frzM h
      exact ⟨b, List.mem_cons_of_mem _ h1, h2, h3⟩
theorem hasB_frz {m : Mem} {q : Nat} {e : Nat × Blk} {b : Blk} {ρ : Nat → Value} (h : e.2 = frzB m q b) (g : Nat) : hasB ρ e g ↔ hasB ρ (e.1, b) g := by
  simp only [hasB, h, frzB_kid]
theorem frzM_pw {m : Mem} {q : Nat} {ρ : Nat → Value} : ∀ {r : Mem}, r.Pairwise (Apart ρ) → (frzM std m q r).Pairwise (Apart ρ)
  | [], _ => by simp [frzM]
  | (k, b) :: r, h => by
    rw [List.pairwise_cons] at h
    have key : ∀ b', b' = frzB m q b → ((k, b') :: frzM std m q r).Pairwise (Apart ρ) := fun b' hb' => by
      refine List.pairwise_cons.2 ⟨fun e he => ?_, frzM_pw h.2⟩
      obtain ⟨x, h1, h2, _⟩ := mem_frzM he
      have hap := h.1 _ h1
      exact ⟨hap.1, fun g g1 g2 => hap.2 g ((hasB_frz (e := (k, b')) hb' g).1 g1) ((hasB_frz h2 g).1 g2)⟩
    cases b with
    | box t l => simp only [frzM]; exact key _ rfl
    | kmap t v M => simp only [frzM]; exact key _ rfl
    | row x y z u =>
      simp only [frzM]
      cases Nat.beq k q <;> simp only [cond_true, cond_false]
      · exact key _ rfl
      · exact frzM_pw h.2
    | krow x K =>
      simp only [frzM]
      cases Nat.beq k q <;> simp only [cond_true, cond_false]
      · exact key _ rfl
      · exact frzM_pw h.2
    | kids K =>
      simp only [frzM]
      cases Nat.beq k q <;> simp only [cond_true, cond_false]
      · exact key _ rfl
      · exact frzM_pw h.2

theorem frzM_keys {m : Mem} {q : Nat} : ∀ {r : Mem}, ((frzM std m q r).map (·.1)).Sublist (r.map (·.1))
  | [] => by simp [frzM]
  | (k, .box t l) :: r => by simp only [frzM, List.map_cons]; exact frzM_keys.cons_cons _
  | (k, .kmap t v M) :: r => by simp only [frzM, List.map_cons]; exact frzM_keys.cons_cons _
  | (k, .row x y z u) :: r => by
    simp only [frzM]
    cases Nat.beq k q <;> simp only [cond_true, cond_false, List.map_cons]
    · exact frzM_keys.cons_cons _
    · exact frzM_keys.cons _
  | (k, .krow x K) :: r => by
    simp only [frzM]
    cases Nat.beq k q <;> simp only [cond_true, cond_false, List.map_cons]
    · exact frzM_keys.cons_cons _
    · exact frzM_keys.cons _
  | (k, .kids K) :: r => by
    simp only [frzM]
    cases Nat.beq k q <;> simp only [cond_true, cond_false, List.map_cons]
    · exact frzM_keys.cons_cons _
    · exact frzM_keys.cons _

theorem pair_in {ρ : Nat → Value} {m : Mem} (hp : m.Pairwise (Apart ρ)) {e e' : Nat × Blk} (h : e ∈ m) (h' : e' ∈ m) (hne : e ≠ e') : Apart ρ e e' := by
  induction m with
  | nil => cases h
  | cons x m ih =>
    rw [List.pairwise_cons] at hp
    rcases List.mem_cons.1 h with e1 | h1 <;> rcases List.mem_cons.1 h' with e2 | h2
    · exact absurd (e1.trans e2.symm) hne
    · rw [e1]; exact hp.1 _ h2
    · rw [e2]; exact (hp.1 _ h1).symm
    · exact ih hp.2 h1 h2

theorem frz_rw {F : Nat → Prop} {m : Mem} {q : Nat} (b : Nat) (h : rwOf F ρ (frzM std m q m) b) : rwOf F ρ m b := by
  rcases h with h | ⟨e, he, hb⟩
  · exact .inl h
  · obtain ⟨x, h1, h2, _⟩ := mem_frzM he
    exact .inr ⟨_, h1, (hasB_frz h2 b).1 hb⟩
theorem frz_own {m : Mem} {q : Nat} (b : Nat) (h : ownOf ρ (frzM std m q m) b) : ownOf ρ m b := by
  obtain ⟨e, he, hb⟩ := h
  obtain ⟨x, h1, h2, _⟩ := mem_frzM he
  exact ⟨_, h1, (hasB_frz h2 b).1 hb⟩
/-- Its block is nobody's now. -/
theorem frz_free (h : SimR c U s a w ρ) {q : Nat} {br : Blk} (hl : look s.mem q = some br) (hrb : isRowB br = true) (b : Nat) (hb : hasB ρ (q, br) b) : ¬ rwOf c.F ρ (frzM std s.mem q s.mem) b := by
  rintro (hf | ⟨e, he, hb'⟩)
  · obtain ⟨h1, h2⟩ := h.old b hf
    rcases h.sub b ⟨_, look_mem hl, hb⟩ with h' | h'
    · exact h2 h'
    · omega
  · obtain ⟨bl, h1, h2, h3⟩ := mem_frzM he
    have hne : (e.1, bl) ≠ (q, br) := by
      intro e0
      injection e0 with e1 e2
      exact h3 (by rw [e2]; exact hrb) e1
    exact (pair_in h.mem.apart h1 (look_mem hl) hne).2 b ((hasB_frz h2 b).1 hb') hb

theorem frz1_rel (h : SimR c U s a w ρ) {q : Nat} {br : Blk} (hl : look s.mem q = some br) (hrb : isRowB br = true) {v : Value} {t : SV} (hv : Rel w ρ (rwOf c.F ρ s.mem) U v t) :
    Rel w ρ (rwOf c.F ρ (frzM std s.mem q s.mem)) U v (frz1 std s.mem q t) := by
  have hmono : ∀ {v t}, Rel w ρ (rwOf c.F ρ s.mem) U v t → Rel w ρ (rwOf c.F ρ (frzM std s.mem q s.mem)) U v t := fun hv => hv.mono (fun _ h => h) (fun _ _ => rfl) (Keep.refl _ _) fun b _ hb => frz_rw b hb
  have hfree := frz_free h hl hrb
  unfold frz1
  split
  · rename_i k
    cases hb : Nat.beq k q
    · exact hmono hv
    · obtain rfl := Nat.eq_of_beq_eq_true hb
      simp only [cond_true, deown, hl]
      cases br with
      | box => cases hrb
      | kmap => cases hrb
      | row x y z u =>
        have := part_slc h.mem (rw' := rwOf c.F ρ (frzM std s.mem k s.mem)) (fun b _ hb => frz_rw b hb) (fun b hb => hfree b (.inl hb)) (own_part h.mem hv hl) hl
        have e0 : std.shift u 0 = u := by funext i j; simp [std, catS, lstS, isBS, rsetS, rcopyS, shiftS, eqrS, strOfS, bytesOfS]
        rwa [e0] at this
      | krow e K =>
        simp only
        cases hh : K.hl with
        | some _ => exact .any _
        | none => exact (krow_slc h.mem (fun b _ hb => frz_rw b hb) hl hfree hh hv).rel
      | kids K => exact .any _
  · rename_i k kk lo n
    cases hb : Nat.beq k q
    · exact hmono hv
    · obtain rfl := Nat.eq_of_beq_eq_true hb
      simp only [cond_true, deown, hl]
      cases br with
      | box => cases hrb
      | kmap => cases hrb
      | krow e K => exact .any _
      | kids K => exact .any _
      | row x y z u =>
        simp only
        cases hb : Nat.beq kk y
        · exact .any _
        · obtain rfl := Nat.eq_of_beq_eq_true hb
          exact part_slc h.mem (fun b _ hb => frz_rw b hb) (fun b hb => hfree b (.inl hb)) hv hl
  · rename_i k j i
    cases hb : Nat.beq k q
    · exact hmono hv
    · obtain rfl := Nat.eq_of_beq_eq_true hb
      simp only [cond_true, deown, hl]
      cases br with
      | box => cases hrb
      | kmap => cases hrb
      | row => exact .any _
      | kids => exact .any _
      | krow e K =>
        simp only
        split
        · rename_i hh ho hf
          obtain rfl := Nat.eq_of_beq_eq_true hf
          exact (kid_slc h.mem (fun b _ hb => frz_rw b hb) hl hfree hh ho hv).rel
        · exact .any _
  · rename_i k j n i
    cases hb : Nat.beq k q
    · exact hmono hv
    · obtain rfl := Nat.eq_of_beq_eq_true hb
      simp only [cond_true, deown, hl]
      cases br with
      | box => cases hrb
      | kmap => cases hrb
      | row => exact .any _
      | krow => exact .any _
      | kids K =>
        simp only
        split
        · rename_i hh ho hf
          rw [Bool.and_eq_true] at hf
          obtain rfl := Nat.eq_of_beq_eq_true hf.1
          obtain rfl := Nat.eq_of_beq_eq_true hf.2
          exact (fkid_slc h.mem (fun b _ hb => frz_rw b hb) hl hfree hh ho hv).rel
        · exact .any _
  · exact absurd hv.one1 (by simp [isRun])
  · exact absurd hv.one1 (by simp [isRun])
  · rename_i k kk i o
    cases hb : Nat.beq k q
    · exact hmono hv
    · exact .any _
  · rename_i f l
    cases hb : l.any (mentB0 q)
    · exact hmono hv
    · exact .any _
  · exact hmono hv

theorem frz1_wid {m : Mem} {q : Nat} (s : SV) : wid (frz1 std m q s) = wid s := by
  unfold frz1
  split <;> first | rfl | skip
  all_goals first
    | (cases Nat.beq _ _ <;> simp only [cond_true, cond_false, deown_wid]; done)
    | (cases Nat.beq _ _ <;> rfl)
    | (cases List.any _ _ <;> rfl)
theorem frz1_not {m : Mem} {q : Nat} {s : SV} (h : isRun s = false) : isRun (frz1 std m q s) = false := by
  unfold frz1
  split <;> first | exact h | skip
  all_goals first
    | (cases h; done)
    | (cases Nat.beq _ _ <;> simp only [cond_true, cond_false] <;> first | exact deown_not h | rfl)
    | (cases List.any _ _ <;> rfl)
theorem frz1_at (h : SimR c U s a w ρ) {q : Nat} {br : Blk} (hl : look s.mem q = some br) (hrb : isRowB br = true) {v : Value} {t : SV} {i : Nat} (hv : Rel w ρ (rwOf c.F ρ s.mem) U v (atR t i)) :
    Rel w ρ (rwOf c.F ρ (frzM std s.mem q s.mem)) U v (atR (frz1 std s.mem q t) i) := by
  have hmono : ∀ {v t}, Rel w ρ (rwOf c.F ρ s.mem) U v t → Rel w ρ (rwOf c.F ρ (frzM std s.mem q s.mem)) U v t := fun hv => hv.mono (fun _ h => h) (fun _ _ => rfl) (Keep.refl _ _) fun b _ hb => frz_rw b hb
  cases hr : isRun t
  · rw [atR_not hr] at hv
    rw [atR_not (frz1_not hr)]
    exact frz1_rel h hl hrb hv
  · cases t <;> first | (cases hr; done) | exact hmono hv | skip
    · rename_i k j n
      have h1 := frz1_rel h hl hrb hv
      simp only [atR, frz1] at h1 ⊢
      cases hb : Nat.beq k q <;> rw [hb] at h1 <;> simp only [cond_true, cond_false] at h1 ⊢
      · exact h1
      · rcases deown_krun s.mem k j n with ⟨ns, kk, f, e1, e2⟩ | e1
        · rw [e2 i] at h1
          rw [e1]
          exact h1
        · rw [e1]; exact .any _
    · rename_i k j p n g
      simp only [frz1]
      cases Nat.beq k q
      · exact hmono hv
      · exact .any _
theorem frz1_ment {m : Mem} {q : Nat} {s : SV} (hr : isRun (frz1 std m q s) = true) {k : Nat} (hk : ment0 k (frz1 std m q s)) : isRun s = true ∧ ment0 k s := by
  cases h : isRun s
  · rw [frz1_not h] at hr; cases hr
  · refine ⟨rfl, ?_⟩
    cases s <;> first | (cases h; done) | exact hk | skip
    · rename_i k' j n
      simp only [frz1] at hk hr
      cases hb : Nat.beq k' q <;> rw [hb] at hk hr <;> simp only [cond_true, cond_false] at hk hr
      · exact hk
      · exact absurd hk (deown_zero hr k)
    · rename_i k' j p n g
      simp only [frz1] at hk
      cases hb : Nat.beq k' q <;> rw [hb] at hk <;> simp only [cond_true, cond_false] at hk
      · exact hk
      · exact hk.elim
theorem frzL_map {m : Mem} {q : Nat} : ∀ l : List SV, frzL std m q l = l.map (frz1 std m q)
  | [] => rfl
  | _ :: l => by simp [frzL, frzL_map l]
theorem frzL_len {m : Mem} {q : Nat} : ∀ l : List SV, (flatC (frzL std m q l)).length = (flatC l).length
  | [] => rfl
  | s :: l => by simp only [frzL, flatC, List.length_append, ones_length, frz1_wid, frzL_len l]
theorem frzL_runs {m : Mem} {q : Nat} {l : List SV} {N : Nat → Prop} (h : RunsIn N l) : RunsIn N (frzL std m q l) := fun s hs hr k hk => by
  rw [frzL_map] at hs
  obtain ⟨t, ht, rfl⟩ := List.mem_map.1 hs
  obtain ⟨h1, h2⟩ := frz1_ment hr hk
  exact h t ht h1 k h2
theorem frzL_rel (h : SimR c U s a w ρ) {q : Nat} {br : Blk} (hl : look s.mem q = some br) (hrb : isRowB br = true) : ∀ {l : List SV} {cs : List Value},
    (∀ (i : Nat) v t, cs[i]? = some v → (flatC l)[i]? = some t → Rel w ρ (rwOf c.F ρ s.mem) U v t) → ∀ (i : Nat) v t, cs[i]? = some v → (flatC (frzL std s.mem q l))[i]? = some t → Rel w ρ (rwOf c.F ρ (frzM std s.mem q s.mem)) U v t
  | [], cs, _, i, v, t, _, ht => by simp [frzL, flatC] at ht
  | x :: l, cs, hh, i, v, t, hv, ht => by
    simp only [frzL] at ht
    rw [flatC_get, frz1_wid] at ht
    split at ht
    · rename_i hi
      simp only [Option.some.injEq] at ht
      subst ht
      exact frz1_at h hl hrb (hh i v _ hv (by rw [flatC_get, if_pos hi]))
    · rename_i hi
      refine frzL_rel h hl hrb (cs := cs.drop (wid x)) (fun k u t hu ht => ?_) (i - wid x) v t (by rw [List.getElem?_drop, show wid x + (i - wid x) = i by omega]; exact hv) ht
      rw [List.getElem?_drop] at hu
      exact hh _ u t hu (by rw [flatC_get, if_neg (by omega), show wid x + k - wid x = k by omega]; exact ht)
theorem frzT_get {m : Mem} {q : Nat} : ∀ (l : List SV) (i : Nat), (frzT std m q l)[i]? = (l[i]?).map (frz2 std m q)
  | [], i => by simp [frzT]
  | _ :: _, 0 => by simp [frzT]
  | _ :: l, i + 1 => by simpa [frzT] using frzT_get l i
theorem frzA_get {m : Mem} {q : Nat} : ∀ (l : List SV) (i : Nat), (frzA std m q l)[i]? = (l[i]?).map (frz3 std m q)
  | [], i => by simp [frzA]
  | _ :: _, 0 => by simp [frzA]
  | _ :: l, i + 1 => by simpa [frzA] using frzA_get l i
theorem frzT_length {m : Mem} {q : Nat} : ∀ (l : List SV), (frzT std m q l).length = l.length
  | [] => rfl
  | _ :: l => by simp [frzT, frzT_length l]
theorem frzA_length {m : Mem} {q : Nat} : ∀ (l : List SV), (frzA std m q l).length = l.length
  | [] => rfl
  | _ :: l => by simp [frzA, frzA_length l]

theorem frz2_rel (h : SimR c U s a w ρ) {q : Nat} {br : Blk} (hl : look s.mem q = some br) (hrb : isRowB br = true) {v : Value} {t : SV} (hv : Rel w ρ (rwOf c.F ρ s.mem) U v t) :
    Rel w ρ (rwOf c.F ρ (frzM std s.mem q s.mem)) U v (frz2 std s.mem q t) := by
  unfold frz2
  split
  · rename_i l
    generalize hs : SV.agg l = t at hv
    cases hv with
    | agg cs l' hlen h1 hh hm =>
      cases hs
      exact .agg _ _ (by rw [frzL_len]; exact hlen) h1 (fun i v t hv ht => frzL_rel h hl hrb (cs := cs.toList) (by simpa using hh) i v t (by simpa using hv) ht) (frzL_runs hm)
    | _ => cases hs
  · exact frz1_rel h hl hrb hv

theorem frz3_rel (h : SimR c U s a w ρ) {q : Nat} {br : Blk} (hl : look s.mem q = some br) (hrb : isRowB br = true) {v : Value} {t : SV} (hv : Rel w ρ (rwOf c.F ρ s.mem) U v t) :
    Rel w ρ (rwOf c.F ρ (frzM std s.mem q s.mem)) U v (frz3 std s.mem q t) := by
  unfold frz3
  split
  · rename_i l
    generalize hs : SV.tup l = t at hv
    cases hv with
    | tup cs l' hlen hh =>
      cases hs
      refine .tup _ _ (by rw [frzT_length]; exact hlen) fun i v t hv ht => ?_
      rw [frzT_get] at ht
      cases hli : l[i]? with
      | none => rw [hli] at ht; cases ht
      | some t' =>
        rw [hli] at ht
        simp only [Option.map_some, Option.some.injEq] at ht
        subst ht
        exact frz2_rel h hl hrb (hh i v t' hv hli)
    | _ => cases hs
  · rename_i cc t
    cases mentB3 q t
    · exact hv.mono (fun _ h => h) (fun _ _ => rfl) (Keep.refl _ _) fun b _ hb => frz_rw b hb
    · exact .any _
  · exact frz2_rel h hl hrb hv

theorem frzA_rel (h : SimR c U s a w ρ) {q : Nat} {br : Blk} (hl : look s.mem q = some br) (hrb : isRowB br = true) {tmps : Array Value} {fr : List SV} (hv : ∀ t, Rel w ρ (rwOf c.F ρ s.mem) U (tmps.getD t undef) (getAt fr t)) (t : Nat) :
    Rel w ρ (rwOf c.F ρ (frzM std s.mem q s.mem)) U (tmps.getD t undef) (getAt (frzA std s.mem q fr) t) := by
  have := hv t
  rw [getAt_eq] at this ⊢
  rw [frzA_get]
  cases hf : fr[t]? with
  | none =>
    rw [hf] at this
    exact this.mono (fun _ h => h) (fun _ _ => rfl) (Keep.refl _ _) fun b _ hb => frz_rw b hb
  | some x =>
    rw [hf] at this
    exact frz3_rel h hl hrb this

theorem frzS_rel (h : SimR c U s a w ρ) {q : Nat} {br : Blk} (hl : look s.mem q = some br) (hrb : isRowB br = true) : ∀ {l : List (Array Value)} {m : List (List SV)}, StkOk w ρ (rwOf c.F ρ s.mem) U l m →
    StkOk w ρ (rwOf c.F ρ (frzM std s.mem q s.mem)) U l (frzS std s.mem q m)
  | [], [], _ => trivial
  | _ :: _, _ :: _, hh => ⟨⟨by rw [frzA_length]; exact hh.1.1, frzA_rel h hl hrb hh.1.2⟩, frzS_rel h hl hrb hh.2⟩
  | [], _ :: _, h => h.elim
  | _ :: _, [], h => h.elim

theorem frzM_sorted {m m0 : Mem} {q : Nat} (h : m.Pairwise fun e e' => e'.1 < e.1) : (frzM std m0 q m).Pairwise fun e e' => e'.1 < e.1 := by
  have e : ∀ m : Mem, m.Pairwise (fun e e' => e'.1 < e.1) ↔ (m.map (·.1)).Pairwise fun k k' => k' < k := fun m => by rw [List.pairwise_map]
  rw [e]
  exact ((e _).1 h).sublist frzM_keys
theorem frz_sim0 (h : SimR c U s a w ρ) {q : Nat} {br : Blk} (hl : look s.mem q = some br) (hrb : isRowB br = true) :
    SimR c U { next := s.next, tmps := frzA std s.mem q s.tmps, mem := frzM std s.mem q s.mem, stk := frzS std s.mem q s.stk } a w ρ ∧ ∀ b, rwOf c.F ρ (frzM std s.mem q s.mem) b → rwOf c.F ρ s.mem b := by
  refine ⟨⟨h.dfr, by rw [frzA_length]; exact h.sz, frzA_rel h hl hrb h.tmps, frzS_rel h hl hrb h.stk, ⟨fun e he => ?_, fun e he => ?_, frzM_pw h.mem.apart, h.mem.frg, frzM_sorted h.mem.sorted⟩, h.keep, fun b hb => h.sub b (frz_own b hb), h.old, h.glb⟩, fun b hb => frz_rw b hb⟩
  · obtain ⟨bl, h1, h2, h3⟩ := mem_frzM he
    have hok := h.mem.blk _ h1
    simp only at hok
    rw [h2]
    cases bl with
    | box t l =>
      obtain ⟨g, arr, e0, hg, hsz, hone, hrel, hm⟩ := hok
      exact ⟨g, arr, e0, hg, by rw [frzL_len]; exact hsz, hone, fun i v t hv ht => frzL_rel h hl hrb (cs := arr.toList) (by simpa using hrel) i v t (by simpa using hv) ht, frzL_runs hm⟩
    | row ee kk nn ff =>
      exact hok.mono (by have := h.mem.key _ h1; exact this) (fun _ h => h) (fun _ _ => rfl) (Keep.refl _ _) (fun b _ hb => frz_rw b hb) fun _ _ => rfl
    | krow ee K =>
      exact hok.mono (by have := h.mem.key _ h1; exact this) (fun _ h => h) (fun _ _ => rfl) (Keep.refl _ _) (fun b _ hb => frz_rw b hb) fun _ _ => rfl
    | kmap t v M =>
      exact hok.mono (by have := h.mem.key _ h1; exact this) (fun _ h => h) (fun _ _ => rfl) (Keep.refl _ _) (fun b _ hb => frz_rw b hb) fun _ _ => rfl
    | kids K =>
      exact hok.mono (by have := h.mem.key _ h1; exact this) (fun _ h => h) (fun _ _ => rfl) (Keep.refl _ _) (fun b _ hb => frz_rw b hb) fun _ _ => rfl
  · obtain ⟨bl, h1, _⟩ := mem_frzM he
    have := h.mem.key _ h1
    exact this
theorem frz_sim (h : SimR c U s a w ρ) (q : Nat) : SimR c U (frz std q s) a w ρ ∧ ∀ b, rwOf c.F ρ (frz std q s).mem b → rwOf c.F ρ s.mem b := by
  unfold frz
  split
  · rename_i hl
    exact frz_sim0 h hl rfl
  · rename_i hl
    exact frz_sim0 h hl rfl
  · rename_i hl
    exact frz_sim0 h hl rfl
  · exact ⟨h, fun _ h => h⟩
theorem frzAll_sim : ∀ (ks : List Nat) {s : St}, SimR c U s a w ρ → SimR c U (frzAll std ks s) a w ρ ∧ ∀ b, rwOf c.F ρ (frzAll std ks s).mem b → rwOf c.F ρ s.mem b
  | [], s, h => ⟨h, fun _ h => h⟩
  | q :: ks, s, h => by
    obtain ⟨h1, h2⟩ := frz_sim h q
    obtain ⟨h3, h4⟩ := frzAll_sim ks h1
    exact ⟨h3, fun b hb => h2 b (h4 b hb)⟩
theorem frz_next (q : Nat) (s : St) : (frz std q s).next = s.next := by unfold frz; split <;> rfl
theorem frzAll_next : ∀ (ks : List Nat) (s : St), (frzAll std ks s).next = s.next
  | [], s => rfl
  | q :: ks, s => by rw [frzAll, frzAll_next, frz_next]
end
end Go.Vd

