/- A region whose order is drawn: the text's order serves all. -/
import Derived.Test.YtpkpbmpfmglbaaaVdComm
set_option linter.unusedVariables false
set_option linter.unusedSimpArgs false
namespace Go.Vd
open Go.RowKit

section
variable {P : Program} {c : Ctx} {T : Tys} {G : Pu}

theorem free1_spec {all : List Oper} {o : Oper} {i : Nat} : ∀ {l : List Oper} {j : Nat}, free1 all o i j l = true → ∀ o' ∈ l, waits o' i = true ∨ (o.apart all.toArray o' = true ∧ clash o.op o'.op = false)
  | [], _, _, o', h => by cases h
  | x :: l, j, h, o', ho => by
    simp only [free1, Bool.and_eq_true, Bool.or_eq_true, Bool.not_eq_true'] at h
    rcases List.mem_cons.1 ho with rfl | ho
    · exact h.1
    · exact free1_spec h.2 o' ho

theorem absAny_lex (hT : TysOk P T) (hG : PuOk P T.gl G) (hgl : T.gl = c.gl) {all : List Oper} {base : Nat} {K : St → Prop} : ∀ (l : List Oper) (i : Nat) (listed : Array Bool) (s : St), (∀ j, l[j]? = all[i + j]?) → i + l.length = all.length →
    listed.size = all.length → (∀ j, listed.getD j true = false ↔ i ≤ j ∧ j < all.length) → drawFrom all i l = true → vcOps std T G all base i l s K → Inh c base listed s → absAny T G all base K l.length listed s
  | [], i, listed, s, hl, hi, hsz, hun, hd, h, hinh => by
    refine ⟨?_, h⟩
    rw [List.eq_nil_iff_forall_not_mem]
    intro j hj
    have := (hun j).1 (ready_unlisted hj)
    simp at hi
    omega
  | o :: l, i, listed, s, hl, hi, hsz, hun, hd, h, hinh => by
    have h0 : all[i]? = some o := by simpa using (hl 0).symm
    have hilt : i < all.length := by simp at hi; omega
    simp only [drawFrom, Bool.and_eq_true] at hd
    obtain ⟨⟨hback, hfree⟩, hrest⟩ := hd
    have hready : i ∈ Region.ready .any all.toArray listed := by
      refine mem_ready.2 ⟨(hun i).2 ⟨Nat.le_refl _, hilt⟩, o, by simpa using h0, fun e he hb => ?_⟩
      have hlt : e.on < i := by
        have := List.all_eq_true.1 hback e (by simpa using he)
        simpa [hb] using this
      have hnot : ¬ listed.getD e.on true = false := fun hh => by have := (hun e.on).1 hh; omega
      rw [Array.getD_eq_getD_getElem?] at hnot ⊢
      rw [Array.getElem?_eq_getElem (by omega)] at hnot ⊢
      simpa using hnot
    have key : ∀ p s', stepOp std T G all base i o s = some (p, s') → holds p → vcOps std T G all base (i + 1) l s' K → absAny T G all base K (o :: l).length listed s := by
      intro p s' hst hp hr
      have hy : Y T G all base i s s' := ⟨o, p, h0, hst, hp⟩
      refine absAny_first (P := P) (c := c) hT hG hgl h0 (fun listed s s1 s2 j oj hj hji hinh hiun hjun hap hcl hy1 hy2 => Y_comm (c := c) hgl h0 listed s s1 s2 j oj hj hji hinh hiun hjun hap hcl hy1 hy2) l.length listed s s' (fun j oj hoj hji hjun hno => ?_) hready hinh hy ?_
      · have hj := (hun j).1 hjun
        have hmem : oj ∈ l := by
          have := hl (j - i)
          rw [show i + (j - i) = j by omega, hoj] at this
          cases hq : j - i with
          | zero => omega
          | succ q => rw [hq] at this; exact List.mem_of_getElem? (by simpa using this)
        rcases free1_spec hfree oj hmem with hw | hw
        · obtain ⟨e, he, hb⟩ := List.any_eq_true.1 hw
          simp only [Bool.and_eq_true, beq_iff_eq] at hb
          exact absurd hb.2 (hno e (by simpa using he) hb.1)
        · exact hw
      · refine absAny_lex hT hG hgl l (i + 1) _ s' (fun j => by have := hl (j + 1); simpa [Nat.add_assoc, Nat.add_comm 1 j] using this) (by simp at hi; omega) (by simpa using hsz) (fun j => ?_) hrest hr (hy.inh hT hG hgl ((hun i).2 ⟨Nat.le_refl _, hilt⟩) hinh)
        by_cases hij : i = j
        · subst hij
          rw [Array.getD_eq_getD_getElem?]
          simp [hsz, hilt]
        · rw [getD_set_ne true hij, hun j]
          omega
    simp only [vcOps] at h
    split at h
    · rename_i s' hst
      exact key _ _ hst trivial h
    · rename_i p s' hst
      exact key _ _ hst h.1 h.2
    · exact h.elim

theorem region_draw (hT : TysOk P T) (hG : PuOk P T.gl G) (hgl : T.gl = c.gl) (hm : P.follows .mixedOrders = true) {id : Nat} {all : List Oper} {Q : Exit → Act → World → Prop} {K : St → Prop} {s : St} {a : Act} {w : World} (hd : drawOk all = true)
    (hK : ∀ s' a w, K s' → Sim c (upTo s'.next) s' a w → Q .normal a w) (h : vcOps std T G all s.next 0 all { s with next := s.next + all.length } (fun s' => s'.next = s.next + all.length ∧ K s')) (hs : Sim c (upTo s.next) s a w) :
    (Code.region id all.toArray true).wp P Q a w := by
  simp only [drawOk, Bool.and_eq_true] at hd
  have hs0 : Sim c (usedBy s.next (Array.replicate all.length false)) { s with next := s.next + all.length } a { w with drawn := w.drawn + 1 } := ((hs.next _).wide fun k hk => .inl hk).drew
  have hlex := absAny_lex (P := P) (c := c) hT hG hgl (all := all) (base := s.next) (K := fun s' => s'.next = s.next + all.length ∧ K s') all 0 (Array.replicate all.length false) { s with next := s.next + all.length } (by simp) (by simp) (by simp)
    (fun j => by
      rw [Array.getD_eq_getD_getElem?]
      by_cases hj : j < all.length
      · simp [hj]
      · rw [Array.getElem?_eq_none (by simp; omega)]; simp; omega) hd.2 h ⟨a, _, hs0⟩
  refine wp_region_any hm ?_
  have := absAny_sound (P := P) (c := c) hT hG hgl (Q := Q) (fun listed s' a w hk hs' hl => hK s' a w hk.2 (hs'.wide fun k hk' => by
    rw [hk.1]
    rcases hk' with h1 | ⟨j, rfl, h2⟩
    · simp only [upTo]; omega
    · have : j < listed.size := by
        rcases Nat.lt_or_ge j listed.size with h' | h'
        · exact h'
        · rw [Array.getD_eq_getD_getElem?, Array.getElem?_eq_none h'] at h2; cases h2
      simp only [upTo]; omega)) all.length (Array.replicate all.length false) { s with next := s.next + all.length } a { w with drawn := w.drawn + 1 } (by simp) hlex hs0
  simpa using this

/-- The number of keys is as it was. -/
theorem vcOps_next {all : List Oper} {base : Nat} {K : St → Prop} {n : Nat} : ∀ (l : List Oper) (i : Nat) (s : St), s.next = n → vcOps std T G all base i l s K → vcOps std T G all base i l s fun s' => s'.next = n ∧ K s'
  | [], i, s, hn, h => ⟨hn, h⟩
  | o :: l, i, s, hn, h => by
    simp only [vcOps] at h ⊢
    split at h
    · rename_i s' hst
      exact vcOps_next l (i + 1) s' ((stepOp_next hst).trans hn) h
    · rename_i p s' hst
      exact ⟨h.1, vcOps_next l (i + 1) s' ((stepOp_next hst).trans hn) h.2⟩
    · exact h.elim

end
end Go.Vd
