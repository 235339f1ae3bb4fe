/- Code: the generator's condition is enough. -/
import Derived.Test.YtfdpbeojmmjgladVcDraw
import Derived.ScopeJumps
set_option linter.unusedVariables false
set_option linter.unusedSimpArgs false
namespace Go.Vc
open Go.RowKit

section
variable {P : Program} {c : Ctx} {T : Tys} {G : Pu}

/-! ### A head that says no more -/
def ρr (r : Ren) (ρ : Nat → Value) (k : Nat) : Value :=
  match renOf r k with
  | some (some q) => ρ q
  | some none => .slice none 0 0
  | none => ρ k

theorem le1_rel {r : Ren} {n : Nat} {w : World} {ρ : Nat → Value} {rw rw' U : Nat → Prop} {v : Value} {s h : SV} (hrw : ∀ b, b < w.heap.size → rw' b → rw b)
    (hr : Rel w ρ rw U v s) (hl : le1 r n s h) : Rel w (ρr r ρ) rw' (upTo n) v h := by
  unfold le1 at hl
  split at hl
  · exact .any _
  · obtain ⟨rfl, hk, hn⟩ := hl
    cases hr with
    | ptr _ _ g hu he => exact .ptr _ _ g hk (by simp only [ρr, hn]; exact he)
  · rename_i k
    obtain ⟨hk, ⟨rfl, hn⟩ | ⟨q, rfl, hn⟩⟩ := hl
    · cases hr
      have := Rel.own (w := w) (ρ := ρr r ρ) (rw := rw') (N := upTo n) k hk (by simp only [ρr, hn]; rfl)
      simpa only [ρr, hn] using this
    · cases hr with
      | own _ hu h1 =>
        have := Rel.own (w := w) (ρ := ρr r ρ) (rw := rw') (N := upTo n) k hk (by simp only [ρr, hn]; exact h1)
        simpa only [ρr, hn] using this
  · rename_i m k f
    obtain ⟨k', f', rfl, hkk, hff⟩ := hl
    cases hr with
    | slc a _ cp _ _ g hn hc ha hr =>
      rcases Nat.eq_zero_or_pos m with h0 | h0
      · subst h0
        exact .slc a 0 cp k f g hn (fun i j hi => absurd hi (by omega)) (fun h => absurd h (by omega)) (fun i j hi => absurd hi (by omega))
      · obtain rfl := hkk h0
        refine .slc a m cp k' f g hn (fun i j hi hj => ?_) ha fun i j hi hj => ?_
        · obtain ⟨ad, e, q1, q2, q3⟩ := hc i j hi hj
          have hb := World.block_lt_of_cell? _ _ q1
          rw [block_add] at hb
          exact ⟨ad, e, q1, q2, fun e => q3 (hrw _ hb e)⟩
        · rw [← hff i j hi hj]
          exact (hr i j hi hj).mono (Keep.refl _ _) hrw
  all_goals first
    | exact hl.elim
    | (subst hl; cases hr; first | exact .int _ _ | exact .bool _ | exact .str _ | exact .flt _ | exact .cpx _ _ | exact .nilp | exact .nils | exact .val _ | exact .un)

theorem leL_rel {r : Ren} {n : Nat} {w : World} {ρ : Nat → Value} {rw rw' U : Nat → Prop} (hrw : ∀ b, b < w.heap.size → rw' b → rw b) : ∀ {l m : List SV}, leL r n l m → l.length = m.length ∧
    ∀ (i : Nat) v t, (∀ s, l[i]? = some s → Rel w ρ rw U v s) → m[i]? = some t → Rel w (ρr r ρ) rw' (upTo n) v t
  | [], [], _ => ⟨rfl, fun i v t _ h => by simp at h⟩
  | s :: l, h :: m, hl => by
    obtain ⟨h1, h2⟩ := leL_rel hrw hl.2
    refine ⟨by simp [h1], fun i v t hv ht => ?_⟩
    cases i with
    | zero =>
      simp only [List.getElem?_cons_zero, Option.some.injEq] at ht
      subst ht
      exact le1_rel hrw (hv s rfl) hl.1
    | succ i => exact h2 i v t (fun s hs => hv s (by simpa using hs)) (by simpa using ht)
  | [], _ :: _, h => h.elim
  | _ :: _, [], h => h.elim

theorem le2_rel {r : Ren} {n : Nat} {w : World} {ρ : Nat → Value} {rw rw' U : Nat → Prop} {v : Value} {s h : SV} (hrw : ∀ b, b < w.heap.size → rw' b → rw b)
    (hr : Rel w ρ rw U v s) (hl : le2 r n s h) : Rel w (ρr r ρ) rw' (upTo n) v h := by
  unfold le2 at hl
  split at hl
  · rename_i m
    obtain ⟨l, rfl, hl⟩ := hl
    cases hr with
    | agg cs _ hlen h1 hh =>
      obtain ⟨q1, q2⟩ := leL_rel (ρ := ρ) (U := U) hrw hl
      refine .agg cs m (by omega) h1 fun i u t hu ht => q2 i u t (fun s hs => hh i u s hu hs) ht
  · exact le1_rel hrw hr hl

theorem leT_rel {r : Ren} {n : Nat} {w : World} {ρ : Nat → Value} {rw rw' U : Nat → Prop} (hrw : ∀ b, b < w.heap.size → rw' b → rw b) : ∀ {l m : List SV}, leT r n l m → l.length = m.length ∧
    ∀ (i : Nat) v, Rel w ρ rw U v (getAt l i) → Rel w (ρr r ρ) rw' (upTo n) v (getAt m i)
  | [], [], _ => ⟨rfl, fun i v h => by simp only [getAt] at h ⊢; cases h; exact .un⟩
  | s :: l, h :: m, hl => by
    obtain ⟨h1, h2⟩ := leT_rel (ρ := ρ) (U := U) hrw hl.2
    refine ⟨by simp [h1], fun i v hv => ?_⟩
    cases i with
    | zero => exact le2_rel hrw hv hl.1
    | succ i => exact h2 i v hv
  | [], _ :: _, h => h.elim
  | _ :: _, [], h => h.elim

theorem leM_mem {r : Ren} {n : Nat} {m : Mem} : ∀ {h : Mem}, leM r n m h → ∀ e ∈ h, e.1 < n ∧ leB r n e.1 m e.2
  | [], _, e, he => by cases he
  | (k, b) :: h, hl, e, he => by
    rcases List.mem_cons.1 he with rfl | he
    · exact ⟨hl.1, hl.2.1⟩
    · exact leM_mem hl.2.2 e he

theorem renOf_mem : ∀ {r : Ren} {k : Nat} {q : Option Nat}, renOf r k = some q → (k, q) ∈ r
  | [], k, q, h => by cases h
  | (k', q') :: r, k, q, h => by
    simp only [renOf] at h
    cases hb : Nat.beq k' k <;> simp only [hb, cond_true, cond_false] at h
    · exact List.mem_cons_of_mem _ (renOf_mem h)
    · obtain rfl : k' = k := Nat.eq_of_beq_eq_true hb
      cases h
      exact List.mem_cons_self ..
theorem renOk_lo {lo : Nat} : ∀ {r : Ren}, renOk lo r → ∀ e ∈ r, lo ≤ e.1
  | [], _, e, h => by cases h
  | (k, q) :: r, h, e, he => by
    rcases List.mem_cons.1 he with rfl | he
    · exact h.1
    · exact renOk_lo h.2.2 e he
theorem renOk_inj {lo : Nat} : ∀ {r : Ren}, renOk lo r → ∀ {k k' q}, (k, some q) ∈ r → (k', some q) ∈ r → k = k'
  | [], _, k, k', q, h, _ => by cases h
  | (k0, q0) :: r, h, k, k', q, h1, h2 => by
    rcases List.mem_cons.1 h1 with e1 | g1 <;> rcases List.mem_cons.1 h2 with e2 | g2
    · cases e1; cases e2; rfl
    · cases e1
      rcases (h.2.1 _ g2).2 with e | e
      · cases e
      · exact absurd rfl e
    · cases e2
      rcases (h.2.1 _ g1).2 with e | e
      · cases e
      · exact absurd rfl e
    · exact renOk_inj h.2.2 g1 g2

theorem noDup_spec : ∀ {m : Mem}, noDup m → m.Pairwise fun e e' => e.1 ≠ e'.1
  | [], _ => List.Pairwise.nil
  | (k, b) :: m, h => List.pairwise_cons.2 ⟨fun e he => (h.1 e he).symm, noDup_spec h.2⟩

theorem look_apart {ρ : Nat → Value} {m : Mem} (hp : m.Pairwise (Apart ρ)) {k k' : Nat} {b b' : Blk} (h : look m k = some b) (h' : look m k' = some b') (hne : k ≠ k') : Apart ρ (k, b) (k', b') := by
  have key : ∀ m : Mem, m.Pairwise (Apart ρ) → (k, b) ∈ m → (k', b') ∈ m → Apart ρ (k, b) (k', b') := fun m => by
    induction m with
    | nil => intro _ h; cases h
    | cons e m ih =>
      intro hp h h'
      rw [List.pairwise_cons] at hp
      rcases List.mem_cons.1 h with rfl | h <;> rcases List.mem_cons.1 h' with e' | h'
      · cases e'; exact absurd rfl hne
      · exact hp.1 _ h'
      · rw [← e'] at hp; exact (hp.1 _ h).symm
      · exact ih hp.2 h h'
  exact key m hp (look_mem h) (look_mem h')

theorem leSt_sim {lo : Nat} (hlo : ∀ k, c.U0 k → k < lo) {r : Ren} {s h : St} {a : Act} {w : World} (hle : leSt lo r s h) (hs : Sim c (upTo s.next) s a w) : Sim c (upTo h.next) h a w := by
  obtain ⟨ρ, hs⟩ := hs
  obtain ⟨h1, h2, h3, h4, h5, h6⟩ := hle
  have hkey : ∀ e ∈ h.mem, e.1 < h.next ∧ leB r h.next e.1 s.mem e.2 := leM_mem h4
  -- where a block of the head's lies
  have hblk : ∀ e ∈ h.mem, ∀ b, blkNo (ρr r ρ e.1) = some b → ∃ k b', look s.mem k = some b' ∧ blkNo (ρ k) = some b ∧ ((renOf r e.1 = none ∧ k = e.1) ∨ renOf r e.1 = some (some k)) := by
    intro e he b hb
    have hB := (hkey e he).2
    obtain ⟨key, x⟩ := e
    cases x with
    | box t cs =>
      obtain ⟨hn, c', hl, _⟩ := hB
      simp only [ρr, hn] at hb
      exact ⟨key, _, hl, hb, .inl ⟨hn, rfl⟩⟩
    | row el k n f =>
      simp only [leB] at hB
      split at hB
      · rename_i key' hn
        obtain ⟨f', hl, _⟩ := hB
        simp only [ρr, hn] at hb
        exact ⟨key', _, hl, hb, .inr hn⟩
      · rename_i hn
        simp only [ρr, hn, blkNo] at hb
        cases hb
      · exact hB.elim
  have hown : ∀ b, ownOf (ρr r ρ) h.mem b → ownOf ρ s.mem b := by
    rintro b ⟨e, he, hb⟩
    obtain ⟨k, b', hl, hb', _⟩ := hblk e he b hb
    exact ⟨_, look_mem hl, hb'⟩
  have hrw : ∀ b, rwOf c.F (ρr r ρ) h.mem b → rwOf c.F ρ s.mem b := fun b hb => hb.imp id (hown b)
  have hrw' : ∀ b, b < w.heap.size → rwOf c.F (ρr r ρ) h.mem b → rwOf c.F ρ s.mem b := fun b _ => hrw b
  obtain ⟨t1, t2⟩ := leT_rel (ρ := ρ) (U := upTo s.next) (w := w) (rw := rwOf c.F ρ s.mem) (rw' := rwOf c.F (ρr r ρ) h.mem) hrw' h3
  refine ⟨ρr r ρ, hs.dfr, hs.sz.trans t1, fun t => t2 t _ (hs.tmps t), ⟨fun e he => ?_, fun e he => (hkey e he).1, ?_, hs.mem.frg⟩, fun k hk => ?_, fun k hk => ?_, hs.keep, fun b hb => hs.sub b (hown b hb)⟩
  · have hB := (hkey e he).2
    obtain ⟨key, x⟩ := e
    cases x with
    | box t cs =>
      obtain ⟨hn, c', hl, hle⟩ := hB
      obtain ⟨g, arr, e0, hg, hsz, hone, hrel⟩ := hs.mem.blk _ (look_mem hl)
      simp only at e0 hg hsz hone hrel
      obtain ⟨q1, q2⟩ := leL_rel (ρ := ρ) (U := upTo s.next) (w := w) (rw := rwOf c.F ρ s.mem) (rw' := rwOf c.F (ρr r ρ) h.mem) hrw' hle
      exact ⟨g, arr, by simp only [ρr, hn]; exact e0, hg, by omega, hone, fun i v t hv ht => q2 i v t (fun s hs => hrel i v s hv hs) ht⟩
    | row el k n f =>
      simp only [leB] at hB
      split at hB
      · rename_i key' hn
        obtain ⟨f', hl, hff⟩ := hB
        obtain ⟨xs, hown, hone, hrel⟩ := hs.mem.blk _ (look_mem hl)
        simp only at hown hone hrel
        refine ⟨xs, by simp only [ρr, hn]; exact hown, hone, fun i j v hi hj hv => ?_⟩
        rw [← hff i j hi hj]
        exact (hrel i j v hi hj hv).mono (Keep.refl _ _) hrw'
      · rename_i hn
        subst hB
        exact ⟨[], by simp only [ρr, hn]; exact ⟨by simp, .inl ⟨rfl, rfl⟩⟩, (fun v hv => by cases hv), (fun i j v hi => absurd hi (by omega))⟩
      · exact hB.elim
  · refine (noDup_spec h6).imp_of_mem fun {e e'} he he' hne => ⟨hne, fun b hb hb' => ?_⟩
    obtain ⟨k, x, hl, hbk, hren⟩ := hblk e he b hb
    obtain ⟨k', x', hl', hbk', hren'⟩ := hblk e' he' b hb'
    by_cases hkk : k = k'
    · subst hkk
      rcases hren with ⟨hn, rfl⟩ | hn <;> rcases hren' with ⟨hn', e2⟩ | hn'
      · exact hne e2
      · -- a box's key is a row's
        have hB := (hkey e he).2
        have hB' := (hkey e' he').2
        obtain ⟨key, y⟩ := e
        obtain ⟨key', y'⟩ := e'
        cases y with
        | row el kk n f => simp only [leB] at hB; simp only at hn; rw [hn] at hB; exact hB
        | box t cs =>
          obtain ⟨_, c', hlb, _⟩ := hB
          cases y' with
          | box t' cs' => obtain ⟨hnn, _⟩ := hB'; simp only at hn'; rw [hnn] at hn'; cases hn'
          | row el kk n f =>
            simp only [leB] at hB'
            simp only at hn'
            rw [hn'] at hB'
            obtain ⟨f', hlr, _⟩ := hB'
            simp only at hlb
            rw [hlb] at hlr
            cases hlr
      · have hB := (hkey e he).2
        have hB' := (hkey e' he').2
        obtain ⟨key, y⟩ := e
        obtain ⟨key', y'⟩ := e'
        simp only at e2
        subst e2
        cases y' with
        | row el kk n f => simp only [leB] at hB'; simp only at hn'; rw [hn'] at hB'; exact hB'
        | box t cs =>
          obtain ⟨_, c', hlb, _⟩ := hB'
          cases y with
          | box t' cs' => obtain ⟨hnn, _⟩ := hB; simp only at hn; rw [hnn] at hn; cases hn
          | row el kk n f =>
            simp only [leB] at hB
            simp only at hn
            rw [hn] at hB
            obtain ⟨f', hlr, _⟩ := hB
            simp only at hlb
            rw [hlb] at hlr
            cases hlr
      · exact hne (renOk_inj h5 (renOf_mem hn) (renOf_mem hn'))
    · exact (look_apart hs.mem.apart hl hl' hkk).2 b hbk hbk'
  · have := hlo k hk; simp only [upTo]; omega
  · have hk' := hlo k hk
    have hn : renOf r k = none := by
      cases hr : renOf r k with
      | none => rfl
      | some q => have := renOk_lo h5 _ (renOf_mem hr); simp only at this; omega
    simp only [ρr, hn]
    exact hs.old k hk

/-! ### Code -/
def post (c : Ctx) (K : Ks) : Exit → Act → World → Prop
  | .normal, a, w => ∃ s, K.nrm s ∧ Sim c (upTo s.next) s a w
  | .ret, a, w => ∃ s, K.ret s ∧ Sim c (upTo s.next) s a w
  | .exit id, a, w => ∃ s, K.ext id s ∧ Sim c (upTo s.next) s a w
  | .goto l, a, w => ∃ s, K.gto l s ∧ Sim c (upTo s.next) s a w
  | _, _, _ => False

theorem least {p : Nat → Prop} (h : ∃ n, p n) : ∃ n, p n ∧ ∀ m, p m → n ≤ m := by
  obtain ⟨n, hn⟩ := h
  induction n using Nat.strongRecOn with
  | _ n ih =>
    by_cases hm : ∃ m, m < n ∧ p m
    · obtain ⟨m, hlt, hpm⟩ := hm
      exact ih m hlt hpm
    · exact ⟨n, hn, fun m hpm => Nat.le_of_not_lt fun hlt => hm ⟨m, hlt, hpm⟩⟩

/-- The least measure of what is on hand. -/
noncomputable def muOf {ι : Type} (I : ι → Act → World → Prop) (mu : ι → Nat) (a : Act) (w : World) : Nat :=
  open Classical in if h : ∃ n, ∃ x, I x a w ∧ mu x = n then (least h).choose else 0
theorem muOf_le {ι : Type} {I : ι → Act → World → Prop} {mu : ι → Nat} {a : Act} {w : World} {x : ι} (h : I x a w) : muOf I mu a w ≤ mu x := by
  have hx : ∃ n, ∃ x, I x a w ∧ mu x = n := ⟨_, x, h, rfl⟩
  unfold muOf
  rw [dif_pos hx]
  exact (least hx).choose_spec.2 _ ⟨x, h, rfl⟩
theorem muOf_at {ι : Type} {I : ι → Act → World → Prop} {mu : ι → Nat} {a : Act} {w : World} (h : ∃ x, I x a w) : ∃ x, I x a w ∧ mu x = muOf I mu a w := by
  obtain ⟨x, hx⟩ := h
  have hx : ∃ n, ∃ x, I x a w ∧ mu x = n := ⟨_, x, hx, rfl⟩
  unfold muOf
  rw [dif_pos hx]
  exact (least hx).choose_spec.1

theorem findLabel_some {l : Nat} : ∀ {a : Code}, hasLabel l a = true ↔ (findLabel a l).isSome = true := fun {a} => by
  induction a with
  | seq x y ihx ihy =>
    simp only [hasLabel, Bool.or_eq_true, ihx, ihy, findLabel]
    cases findLabel x l <;> simp
  | label l' =>
    simp only [hasLabel, findLabel]
    constructor
    · intro h
      obtain rfl : l' = l := Nat.eq_of_beq_eq_true h
      simp
    · intro h
      by_cases e : l' = l
      · subst e; exact Nat.beq_refl l'
      · simp [e] at h
  | _ => simp [hasLabel, findLabel]

theorem vc_sound (hT : TysOk P T) (hG : PuOk P G) (hm : P.follows .mixedOrders = true) {lo : Nat} (hlo : ∀ k, c.U0 k → k < lo) : ∀ (code : Code) (mode : Option Nat) (s : St) (K : Ks), vc std T G lo mode code s K →
    (mode = none → ∀ a w, Sim c (upTo s.next) s a w → code.wp P (post c K) a w) ∧
    (∀ l, mode = some l → ∃ rest, findLabel code l = some rest ∧ ∀ a w, Sim c (upTo s.next) s a w → rest.wp P (post c K) a w) := by
  intro code
  induction code with
  | skip =>
    intro mode s K h
    cases mode with
    | none => exact ⟨fun _ a w hs => wp_skip ⟨s, h, hs⟩, fun l e => by cases e⟩
    | some l => exact h.elim
  | label l' =>
    intro mode s K h
    cases mode with
    | none => exact ⟨fun _ a w hs => wp_label ⟨s, h, hs⟩, fun l e => by cases e⟩
    | some l =>
      refine ⟨fun e => (by cases e), fun l0 e => ?_⟩
      cases e
      simp only [vc] at h
      cases hb : Nat.beq l' l <;> simp only [hb, cond_true, cond_false] at h
      obtain rfl : l' = l := Nat.eq_of_beq_eq_true hb
      exact ⟨.skip, by simp [findLabel], fun a w hs => wp_skip ⟨s, h, hs⟩⟩
  | region id ops draw =>
    intro mode s K h
    cases mode with
    | none =>
      refine ⟨fun _ a w hs => ?_, fun l e => by cases e⟩
      exact region_sound (K := K.nrm) hT hG hm (fun e => by subst e; exact h.1) (fun s' a w hk hs' => ⟨s', hk, hs'⟩) h.2 hs
    | some l => exact h.elim
  | seq x y ihx ihy =>
    intro mode s K h
    have hseq : ∀ (K : Ks) (x' : Code) a w, x'.wp P (post c { K with nrm := fun s' => vc std T G lo none y s' K }) a w → (Code.seq x' y).wp P (post c K) a w := fun K x' a w hx =>
      wp_seq (wp_mono hx fun e a w hq => by
        cases e with
        | normal => obtain ⟨s', hk, hs'⟩ := hq; exact (ihy none s' K hk).1 rfl a w hs'
        | exit id => exact hq
        | goto l => exact hq
        | ret => exact hq
        | panic ch => exact hq
        | outgrown => exact hq)
    cases mode with
    | none => exact ⟨fun _ a w hs => hseq K x a w ((ihx none s _ h).1 rfl a w hs), fun l e => by cases e⟩
    | some l =>
      refine ⟨fun e => (by cases e), fun l0 e => ?_⟩
      cases e
      simp only [vc] at h
      cases hb : hasLabel l x <;> simp only [hb, cond_true, cond_false] at h
      · obtain ⟨rest, hr, hw⟩ := (ihy (some l) s K h).2 l rfl
        refine ⟨rest, ?_, hw⟩
        have : findLabel x l = none := by
          cases hf : findLabel x l with
          | none => rfl
          | some r => rw [findLabel_some.2 (by rw [hf]; rfl)] at hb; cases hb
        simp only [findLabel, this, hr]
      · obtain ⟨rest, hr, hw⟩ := (ihx (some l) s _ h).2 l rfl
        exact ⟨.seq rest y, by simp only [findLabel, hr], fun a w hs => hseq K rest a w (hw a w hs)⟩
  | cond cc x y ihx ihy =>
    intro mode s K h
    cases mode with
    | none =>
      refine ⟨fun _ a w hs => ?_, fun l e => by cases e⟩
      simp only [vc] at h
      split at h
      · rename_i t ht
        obtain ⟨ρ, hs'⟩ := hs
        have hv := hs'.ev cc
        rw [ht] at hv
        exact wp_cond_split hv.eq_bool (fun e => (ihx none s K (h.1 e)).1 rfl a w ⟨ρ, hs'⟩) (fun e => (ihy none s K (h.2 e)).1 rfl a w ⟨ρ, hs'⟩)
      · exact h.elim
    | some l => exact h.elim
  | block id x ih =>
    intro mode s K h
    cases mode with
    | none =>
      refine ⟨fun _ a w hs => wp_block (wp_mono ((ih none s _ h).1 rfl a w hs) fun e a w hq => ?_), fun l e => by cases e⟩
      cases e with
      | normal => exact hq
      | exit i =>
        obtain ⟨s', hk, hs'⟩ := hq
        simp only [Exit.inBlock]
        simp only at hk
        by_cases hi : i = id
        · subst hi
          rw [if_pos rfl]
          rw [Nat.beq_refl] at hk
          exact ⟨s', hk, hs'⟩
        · rw [if_neg hi]
          have : Nat.beq i id = false := by
            cases hb : Nat.beq i id with
            | false => rfl
            | true => exact absurd (Nat.eq_of_beq_eq_true hb) hi
          rw [this] at hk
          exact ⟨s', hk, hs'⟩
      | goto l => exact hq
      | ret => exact hq
      | panic ch => exact hq
      | outgrown => exact hq
    | some l => exact h.elim
  | loop x ih =>
    intro mode s K h
    cases mode with
    | none =>
      refine ⟨fun _ a w hs => ?_, fun l e => by cases e⟩
      obtain ⟨L, ⟨x0, r, hle⟩, hbody⟩ := h
      refine wp_loop (fun a w => ∃ y, Sim c (upTo (L.head y).next) (L.head y) a w) (muOf (fun y a w => Sim c (upTo (L.head y).next) (L.head y) a w) L.mu) ⟨x0, leSt_sim hlo hle hs⟩ fun a w hI => ?_
      obtain ⟨y, hy, hmu⟩ := muOf_at (mu := L.mu) hI
      refine wp_mono ((ih none (L.head y) _ (hbody y)).1 rfl a w hy) fun e a' w' hq => ?_
      cases e with
      | normal =>
        obtain ⟨s', ⟨y', r', hle', hlt⟩, hs'⟩ := hq
        have hsy := leSt_sim hlo hle' hs'
        refine ⟨⟨y', hsy⟩, ?_⟩
        rw [← hmu]
        exact Nat.lt_of_le_of_lt (muOf_le hsy) hlt
      | exit id => exact hq
      | goto l => exact hq
      | ret => exact hq
      | panic ch => exact hq
      | outgrown => exact hq
    | some l => exact h.elim
  | scope x ih =>
    intro mode s K h
    cases mode with
    | none =>
      refine ⟨fun _ a w hs => ?_, fun l e => by cases e⟩
      simp only [vc] at h
      split at h
      · refine wp_scope_straight (wp_mono ((ih none s _ h).1 rfl a w hs) fun e a w hq => ?_)
        cases e with
        | goto l => obtain ⟨_, hf, _⟩ := hq; exact hf.elim
        | normal => exact hq
        | exit id => exact hq
        | ret => exact hq
        | panic ch => exact hq
        | outgrown => exact hq
      · rename_i l hl
        obtain ⟨L, hfirst, hpass⟩ := h
        have hjump : ∀ (K' : Ks) (J : Act → World → Prop), (∀ l' s', K'.gto l' s' → ∀ a w, Sim c (upTo s'.next) s' a w → l' = l ∧ J a w) → (∀ s, K'.nrm s → K.nrm s) → (∀ s, K'.ret s → K.ret s) → (∀ i s, K'.ext i s → K.ext i s) →
            ∀ e a w, post c K' e a w → Exit.jump l J (post c K) e a w := by
          intro K' J hJ h1 h2 h3 e a w hq
          cases e with
          | goto l' => obtain ⟨s', hk, hs'⟩ := hq; exact hJ l' s' hk a w hs'
          | normal => obtain ⟨s', hk, hs'⟩ := hq; exact ⟨s', h1 _ hk, hs'⟩
          | exit id => obtain ⟨s', hk, hs'⟩ := hq; exact ⟨s', h3 _ _ hk, hs'⟩
          | ret => obtain ⟨s', hk, hs'⟩ := hq; exact ⟨s', h2 _ hk, hs'⟩
          | panic ch => exact hq.elim
          | outgrown => exact hq.elim
        have hbeq : ∀ l', ∀ (p : Prop), (bif Nat.beq l' l then p else False) → l' = l ∧ p := fun l' p hp => by
          cases hb : Nat.beq l' l <;> rw [hb] at hp
          · exact hp.elim
          · exact ⟨Nat.eq_of_beq_eq_true hb, hp⟩
        -- there is a first pass only if the label is there
        by_cases hI : Nonempty L.I
        · obtain ⟨y0⟩ := hI
          obtain ⟨rest, hr, _⟩ := (ih (some l) (L.head y0) _ (hpass y0)).2 l rfl
          refine wp_scope_jumps l (fun a w => ∃ y, Sim c (upTo (L.head y).next) (L.head y) a w) (muOf (fun y a w => Sim c (upTo (L.head y).next) (L.head y) a w) L.mu) hr ?_ fun a w hI => ?_
          · refine wp_mono ((ih none s _ hfirst).1 rfl a w hs) (hjump _ _ (fun l' s' hk a w hs' => ?_) (fun _ h => h) (fun _ h => h) (fun _ _ h => h))
            obtain ⟨e, y, r, hle⟩ := hbeq l' _ hk
            exact ⟨e, y, leSt_sim hlo hle hs'⟩
          · obtain ⟨y, hy, hmu⟩ := muOf_at (mu := L.mu) hI
            obtain ⟨rest', hr', hw⟩ := (ih (some l) (L.head y) _ (hpass y)).2 l rfl
            rw [hr] at hr'
            cases hr'
            refine wp_mono (hw a w hy) (hjump _ _ (fun l' s' hk a w hs' => ?_) (fun _ h => h) (fun _ h => h) (fun _ _ h => h))
            obtain ⟨e, y', r', hle', hlt⟩ := hbeq l' _ hk
            have hsy := leSt_sim hlo hle' hs'
            refine ⟨e, ⟨y', hsy⟩, ?_⟩
            rw [← hmu]
            exact Nat.lt_of_le_of_lt (muOf_le hsy) hlt
        · refine wp_scope_straight (wp_mono ((ih none s _ hfirst).1 rfl a w hs) fun e a w hq => ?_)
          cases e with
          | goto l' =>
            obtain ⟨s', hk, hs'⟩ := hq
            obtain ⟨_, y, _⟩ := hbeq l' _ hk
            exact hI ⟨y⟩
          | normal => exact hq
          | exit id => exact hq
          | ret => exact hq
          | panic ch => exact hq
          | outgrown => exact hq
    | some l => exact h.elim
  | exit id =>
    intro mode s K h
    cases mode with
    | none => exact ⟨fun _ a w hs => wp_exit ⟨s, h, hs⟩, fun l e => by cases e⟩
    | some l => exact h.elim
  | goto l' =>
    intro mode s K h
    cases mode with
    | none => exact ⟨fun _ a w hs => wp_goto ⟨s, h, hs⟩, fun l e => by cases e⟩
    | some l => exact h.elim
  | ret =>
    intro mode s K h
    cases mode with
    | none => exact ⟨fun _ a w hs => wp_ret ⟨s, h, hs⟩, fun l e => by cases e⟩
    | some l => exact h.elim
  | rangeFunc f ps as b =>
    intro mode s K h
    cases mode <;> exact h.elim
  | refuse why =>
    intro mode s K h
    cases mode <;> exact h.elim
end
end Go.Vc
