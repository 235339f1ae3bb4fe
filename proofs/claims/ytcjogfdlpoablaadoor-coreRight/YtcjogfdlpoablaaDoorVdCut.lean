/- A function's condition, cut in two: what its first pieces ask, and what the others ask of a state that these leave. -/
import Derived.Test.YtcjogfdlpoablaaDoorVdSeat
set_option linter.unusedVariables false
set_option linter.unusedSimpArgs false
namespace Go.Vd
def headC : Nat → Code → Code
  | 0, _ => .skip
  | n + 1, .seq a b => .seq a (headC n b)
  | _ + 1, c => c
def tailC : Nat → Code → Code
  | 0, c => c
  | n + 1, .seq _ b => tailC n b
  | _ + 1, _ => .skip
def bodyC (fn : Func) : Code := match fn.body with
  | some c => c
  | none => .skip
theorem vc_split {A : Ar} {T : Tys} {G : Pu} {X : Xt} {C : Cl} : ∀ (n : Nat) (c : Code) (s : St) (K : Ks),
    vc A T G X C .run c s K = vc A T G X C .run (headC n c) s { K with nrm := fun s' => vc A T G X C .run (tailC n c) s' K }
  | 0, c, s, K => by simp only [headC, tailC, vc]
  | n + 1, c, s, K => by
    cases c with
    | seq a b =>
      simp only [headC, tailC, vc]
      congr 1
      have : (fun s' => vc A T G X C .run b s' K) = fun s' => vc A T G X C .run (headC n b) s' { K with nrm := fun s'' => vc A T G X C .run (tailC n b) s'' K } := funext fun s' => vc_split n b s' K
      rw [this]
    | _ => simp only [headC, tailC, vc]
theorem vcFn_cut {A : Ar} {T : Tys} {G : Pu} {X : Xt} {I : Nat → Option Func} {how : How} {fn : Func} {args : List SV} {R : SV} (n : Nat) (hb : fn.body.isSome = true) (hc : (closedA args && Nat.ble (len args) fn.ntmps) = true)
    (h : ∀ N : St → Prop, (N = fun s' => vc A T G X (inl A T G X I 12) .run (tailC n (bodyC fn)) s' { nrm := answered A T fn how R, ret := answered A T fn how R, ext := fun _ _ => False, gto := fun _ _ => False, lbl := fun _ => False }) →
      vc A T G X (inl A T G X I 12) .run (headC n (bodyC fn)) (start fn args) { nrm := N, ret := answered A T fn how R, ext := fun _ _ => False, gto := fun _ _ => False, lbl := fun _ => False }) :
    vcFn A T G X I how fn args R := by
  unfold vcFn
  cases hbd : fn.body with
  | none => rw [hbd] at hb; cases hb
  | some c =>
    have e : bodyC fn = c := by unfold bodyC; rw [hbd]
    rw [e] at h
    simp only [hc, cond_true]
    rw [vc_split n]
    exact h _ rfl
theorem vcSeq_split {A : Ar} {T : Tys} {G : Pu} {X : Xt} {C : Cl} {all : List Oper} : ∀ (l m : List Oper) (s : St) (K : St → Prop),
    vcSeq A T G X C all (l ++ m) s K = vcSeq A T G X C all l s fun s' => vcSeq A T G X C all m s' K
  | [], m, s, K => rfl
  | o :: l, m, s, K => by
    have ih : ∀ s', vcSeq A T G X C all (l ++ m) s' K = vcSeq A T G X C all l s' fun s'' => vcSeq A T G X C all m s'' K := fun s' => vcSeq_split l m s' K
    simp only [List.cons_append, vcSeq, ih]
/-- Within a region that is carried out in order: behind n operations. -/
theorem vc_region_cut {A : Ar} {T : Tys} {G : Pu} {X : Xt} {C : Cl} (n : Nat) {z : Nat} {ops : Array Oper} {s : St} {K : Ks}
    (h : ∀ N : St → Prop, (N = fun s' => vcSeq A T G X C ops.toList (ops.toList.drop n) s' K.nrm) → vcSeq A T G X C ops.toList (ops.toList.take n) s N) : vcSeq A T G X C ops.toList ops.toList s K.nrm := by
  have e : ops.toList = ops.toList.take n ++ ops.toList.drop n := (List.take_append_drop n _).symm
  conv => arg 7; rw [e]
  rw [vcSeq_split]
  exact h _ rfl
end Go.Vd
