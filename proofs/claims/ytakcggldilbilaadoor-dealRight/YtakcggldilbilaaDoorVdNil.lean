/- A slice that is nil, as a row of nothing. -/
import Derived.Test.YtakcggldilbilaaDoorVdSeat
set_option linter.unusedVariables false
namespace Go.Vd
def svn1 : SV → SV → Prop
  | .slc n k f, t => (∃ g, t = .slc n k g ∧ ∀ i j, i < n → j < k → Ceq (f i j) (g i j)) ∨ (n = 0 ∧ ∃ k' g, t = .slc 0 k' g)
  | .nils, t => ∃ k g, t = .slc 0 k g
  | s, t => s = t
theorem svn1_rel {w : World} {ρ : Nat → Value} {rw N : Nat → Prop} {v : Value} {s t : SV} (h : Rel w ρ rw N v s) (e : svn1 s t) : Rel w ρ rw N v t := by
  cases s with
  | slc n k f =>
    rcases e with e | ⟨rfl, k', g, rfl⟩
    · exact sv1_rel h e
    · cases h with
      | slc a _ c _ _ g2 hn hc ha hr => exact .slc a 0 c k' g (fun _ _ => undef) hn (fun i j hi => absurd hi (by omega)) (fun h => absurd h (by omega)) (fun i j hi => absurd hi (by omega))
  | nils =>
    obtain ⟨k, g, rfl⟩ := e
    cases h with
    | nils => exact .slc none 0 0 k g (fun _ _ => undef) (Nat.le_refl _) (fun i j hi => absurd hi (by omega)) (fun h => absurd h (by omega)) (fun i j hi => absurd hi (by omega))
  | _ => cases e; exact h
def svn2 : SV → SV → Prop
  | .agg l, t => ∃ m, t = .agg m ∧ All2 svn1 l m
  | s, t => svn1 s t
theorem svn2_rel {w : World} {ρ : Nat → Value} {rw N : Nat → Prop} {v : Value} {s t : SV} (h : Rel w ρ rw N v s) (e : svn2 s t) : Rel w ρ rw N v t := by
  cases s with
  | agg l =>
    obtain ⟨m, rfl, he⟩ := e
    generalize hs : SV.agg l = s at h
    cases h with
    | agg cs l' hl h1 hh =>
      cases hs
      have hlen := he.length
      refine .agg _ _ (by omega) h1 fun i v t hv ht => ?_
      have hi : i < l.length := by have := (List.getElem?_eq_some_iff.1 ht).1; omega
      exact svn1_rel (hh i v _ hv (List.getElem?_eq_getElem hi)) (he.get i _ t (List.getElem?_eq_getElem hi) ht)
    | _ => cases hs
  | _ => exact svn1_rel h e
theorem good_svn {P : Program} {gl : Nat → SV} {f : FuncId} {args args' : List SV} {r : SV} (h : GoodP P gl f args' r) (he : All2 svn2 args args') : GoodP P gl f args r := by
  intro w ρ rw N vs hfr hrw hg hargs
  refine h w ρ rw N vs hfr hrw hg ?_
  have key : ∀ {vs : List Value} {l m : List SV}, All2 (Rel w ρ rw N) vs l → All2 svn2 l m → All2 (Rel w ρ rw N) vs m := by
    intro vs
    induction vs with
    | nil => intro l m h1 h2; cases l with
      | nil => cases m with
        | nil => trivial
        | cons => exact h2.elim
      | cons => exact h1.elim
    | cons v vs ih => intro l m h1 h2; cases l with
      | nil => exact h1.elim
      | cons s l => cases m with
        | nil => exact h2.elim
        | cons t m => exact ⟨svn2_rel h1.1 h2.1, ih h1.2 h2.2⟩
  exact key hargs he
end Go.Vd
