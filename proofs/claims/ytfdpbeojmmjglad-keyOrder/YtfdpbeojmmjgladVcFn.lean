/- A function: the generator's condition makes its contract. -/
import Derived.Test.YtfdpbeojmmjgladVcCode
set_option linter.unusedVariables false
set_option linter.unusedSimpArgs false
namespace Go.Vc
open Go.RowKit

section
variable {P : Program} {T : Tys} {G : Pu}

theorem closed1_any {w : World} {ρ ρ' : Nat → Value} {rw rw' U U' : Nat → Prop} (hrw : ∀ b, b < w.heap.size → rw' b → rw b) {v : Value} {s : SV} (hc : closed1 s = true) (h : Rel w ρ rw U v s) : Rel w ρ' rw' U' v s :=
  ((h.closed hc).mono (Keep.refl _ _) hrw).rel
theorem closed2_any {w : World} {ρ ρ' : Nat → Value} {rw rw' U U' : Nat → Prop} (hrw : ∀ b, b < w.heap.size → rw' b → rw b) {v : Value} {s : SV} (hc : closed2 s = true) (h : Rel w ρ rw U v s) : Rel w ρ' rw' U' v s := by
  cases s with
  | agg l =>
    generalize hs : SV.agg l = s at h
    cases h with
    | agg cs l' hl h1 h =>
      cases hs
      exact .agg _ _ hl h1 fun i v s hv hs => closed1_any hrw (closedL_spec hc s (List.mem_of_getElem? hs)) (h i v s hv hs)
    | _ => cases hs
  | _ => exact closed1_any hrw hc h

theorem own_of {w : World} {ρ : Nat → Value} {rwc U : Nat → Prop} {ρ0 : Nat → Value} {rw N : Nat → Prop} {key k : Nat} {v : Value} (h : Rel w ρ rwc U v (.own k)) :
    Rel w (updK ρ0 key (ρ k)) rw (withK N key) v (.own key) := by
  cases h with
  | own _ hk h1 =>
    have := Rel.own (w := w) (ρ := updK ρ0 key (ρ k)) (rw := rw) (N := withK N key) key (.inr rfl) (by rw [updK_same]; exact h1)
    rwa [updK_same] at this

theorem claim1_closed {key : Nat} {s : SV} (h : closed1 s = true) : claim1 key s = none := by cases s <;> first | rfl | cases h

variable {w : World} {ρ : Nat → Value} {F U : Nat → Prop} {m : Mem} {ρ0 : Nat → Value} {N : Nat → Prop} {key : Nat}

theorem rw_own {k : Nat} {b : Blk} (hl : look m k = some b) : ∀ g, g < w.heap.size → (F g ∨ blkNo (ρ k) = some g) → rwOf F ρ m g := fun g _ h => h.imp id fun h => ⟨_, look_mem hl, h⟩

theorem giveL_spec : ∀ {l l' : List SV} {b : Bool}, giveL m l = some (l', b) →
    (b = false → l' = l ∧ closedL l = true ∧ claimL key l' = none) ∧
    (b = true → ∃ k e q n f l'', look m k = some (.row e q n f) ∧ claimL key l' = some (l'', .row e q n f) ∧ l''.length = l.length ∧
      ∀ (i : Nat) v t, (∀ s, l[i]? = some s → Rel w ρ (rwOf F ρ m) U v s) → l''[i]? = some t → Rel w (updK ρ0 key (ρ k)) (fun b => F b ∨ blkNo (ρ k) = some b) (withK N key) v t)
  | [], l', b, h => by
    simp only [giveL, Option.some.injEq, Prod.mk.injEq] at h
    obtain ⟨rfl, rfl⟩ := h
    exact ⟨fun _ => ⟨rfl, rfl, rfl⟩, fun e => by cases e⟩
  | s :: l, l', b, h => by
    simp only [giveL] at h
    cases hg : giveL m l with
    | none => rw [hg] at h; cases h
    | some x =>
      obtain ⟨l1, b1⟩ := x
      rw [hg] at h
      obtain ⟨i1, i2⟩ := giveL_spec hg
      simp only at h
      split at h
      · rename_i k
        split at h
        · rename_i e q n f hl
          cases hb : b1 <;> simp only [hb, cond_true, cond_false, reduceCtorEq, Option.some.injEq, Prod.mk.injEq] at h
          obtain ⟨rfl, rfl⟩ := h
          obtain ⟨rfl, hcl, _⟩ := i1 hb
          refine ⟨(fun e => by cases e), fun _ => ⟨k, e, q, n, f, .own key :: l1, hl, by simp [claimL, claim1], by simp, fun i v t hv ht => ?_⟩⟩
          cases i with
          | zero =>
            simp only [List.getElem?_cons_zero, Option.some.injEq] at ht
            subst ht
            exact own_of (hv _ rfl)
          | succ i =>
            simp only [List.getElem?_cons_succ] at ht
            exact closed1_any (rw_own hl) (closedL_spec hcl t (List.mem_of_getElem? ht)) (hv t (by simpa using ht))
        · cases h
      · cases hc : closed1 s <;> simp only [hc, cond_true, cond_false, reduceCtorEq, Option.some.injEq, Prod.mk.injEq] at h
        obtain ⟨rfl, rfl⟩ := h
        refine ⟨fun e => ?_, fun e => ?_⟩
        · obtain ⟨rfl, h2, h3⟩ := i1 e
          exact ⟨rfl, by simp [closedL, hc, h2], by simp [claimL, claim1_closed hc, h3]⟩
        · obtain ⟨k, el, q, n, f, l'', hl, hcl, hlen, hrel⟩ := i2 e
          refine ⟨k, el, q, n, f, s :: l'', hl, by simp [claimL, claim1_closed hc, hcl], by simp [hlen], fun i v t hv ht => ?_⟩
          cases i with
          | zero =>
            simp only [List.getElem?_cons_zero, Option.some.injEq] at ht
            subst ht
            exact closed1_any (rw_own hl) hc (hv _ rfl)
          | succ i => exact hrel i v t (fun s' hs' => hv s' (by simpa using hs')) (by simpa using ht)

theorem closed1_claim2 {s : SV} (h : closed1 s = true) : claim2 key s = none := by cases s <;> first | rfl | cases h

theorem give2_spec {s s' : SV} {b : Bool} (h : give2 m s = some (s', b)) :
    (b = false → s' = s ∧ closed2 s = true ∧ claim2 key s' = none) ∧
    (b = true → ∃ k e q n f s'', look m k = some (.row e q n f) ∧ claim2 key s' = some (s'', .row e q n f) ∧
      ∀ v, Rel w ρ (rwOf F ρ m) U v s → Rel w (updK ρ0 key (ρ k)) (fun b => F b ∨ blkNo (ρ k) = some b) (withK N key) v s'') := by
  unfold give2 at h
  split at h
  · rename_i l
    split at h
    · rename_i l' b' hg
      simp only [Option.some.injEq, Prod.mk.injEq] at h
      obtain ⟨rfl, rfl⟩ := h
      obtain ⟨i1, i2⟩ := giveL_spec (key := key) (w := w) (ρ := ρ) (F := F) (U := U) (ρ0 := ρ0) (N := N) hg
      refine ⟨fun e => ?_, fun e => ?_⟩
      · obtain ⟨rfl, h2, h3⟩ := i1 e
        exact ⟨rfl, h2, by simp only [claim2, h3]⟩
      · obtain ⟨k, el, q, n, f, l'', hl, hcl, hlen, hrel⟩ := i2 e
        refine ⟨k, el, q, n, f, .agg l'', hl, by simp only [claim2, hcl], fun v hv => ?_⟩
        generalize hs : SV.agg l = s at hv
        cases hv with
        | agg cs l0 hl0 h1 hh =>
          cases hs
          exact .agg cs l'' (by omega) h1 fun i u t hu ht => hrel i u t (fun s hs => hh i u s hu hs) ht
        | _ => cases hs
    · cases h
  · rename_i k
    split at h
    · rename_i e q n f hl
      simp only [Option.some.injEq, Prod.mk.injEq] at h
      obtain ⟨rfl, rfl⟩ := h
      exact ⟨(fun e => by cases e), fun _ => ⟨k, e, q, n, f, .own key, hl, rfl, fun v hv => own_of hv⟩⟩
    · cases h
  · cases hc : closed1 s <;> simp only [hc, cond_true, cond_false, reduceCtorEq, Option.some.injEq, Prod.mk.injEq] at h
    obtain ⟨rfl, rfl⟩ := h
    refine ⟨fun _ => ⟨rfl, ?_, closed1_claim2 hc⟩, fun e => by cases e⟩
    cases s <;> first | exact hc | cases hc

theorem giveT_spec : ∀ {l l' : List SV} {b : Bool}, giveT m l = some (l', b) →
    (b = false → l' = l ∧ (∀ s ∈ l, closed2 s = true) ∧ claimT key l' = none) ∧
    (b = true → ∃ k e q n f l'', look m k = some (.row e q n f) ∧ claimT key l' = some (l'', .row e q n f) ∧ l''.length = l.length ∧
      ∀ (i : Nat) v t, (∀ s, l[i]? = some s → Rel w ρ (rwOf F ρ m) U v s) → l''[i]? = some t → Rel w (updK ρ0 key (ρ k)) (fun b => F b ∨ blkNo (ρ k) = some b) (withK N key) v t)
  | [], l', b, h => by
    simp only [giveT, Option.some.injEq, Prod.mk.injEq] at h
    obtain ⟨rfl, rfl⟩ := h
    exact ⟨fun _ => ⟨rfl, fun s hs => (by cases hs), rfl⟩, fun e => by cases e⟩
  | s :: l, l', b, h => by
    simp only [giveT] at h
    split at h
    · rename_i l1 b1 s1 b2 hg hg2
      obtain ⟨i1, i2⟩ := giveT_spec hg
      obtain ⟨j1, j2⟩ := give2_spec (key := key) (w := w) (ρ := ρ) (F := F) (U := U) (ρ0 := ρ0) (N := N) hg2
      cases hb : (b1 && b2) <;> simp only [hb, cond_true, cond_false, reduceCtorEq, Option.some.injEq, Prod.mk.injEq] at h
      obtain ⟨rfl, rfl⟩ := h
      refine ⟨fun e => ?_, fun e => ?_⟩
      · rw [Bool.or_eq_false_iff] at e
        obtain ⟨rfl, h2, h3⟩ := i1 e.1
        obtain ⟨rfl, g2, g3⟩ := j1 e.2
        refine ⟨rfl, fun t ht => ?_, by simp only [claimT, g3, h3]⟩
        rcases List.mem_cons.1 ht with rfl | ht
        · exact g2
        · exact h2 t ht
      · cases hb2 : b2 with
        | true =>
          have hb1 : b1 = false := by rw [hb2, Bool.and_true] at hb; exact hb
          obtain ⟨rfl, h2, h3⟩ := i1 hb1
          obtain ⟨k, el, q, n, f, s'', hl, hcl, hrel⟩ := j2 hb2
          refine ⟨k, el, q, n, f, s'' :: l1, hl, by simp only [claimT, hcl], by simp, fun i v t hv ht => ?_⟩
          cases i with
          | zero =>
            simp only [List.getElem?_cons_zero, Option.some.injEq] at ht
            subst ht
            exact hrel v (hv _ rfl)
          | succ i =>
            simp only [List.getElem?_cons_succ] at ht
            exact closed2_any (rw_own hl) (h2 t (List.mem_of_getElem? ht)) (hv t (by simpa using ht))
        | false =>
          have hb1 : b1 = true := by rw [hb2, Bool.or_false] at e; exact e
          obtain ⟨rfl, g2, g3⟩ := j1 hb2
          obtain ⟨k, el, q, n, f, l'', hl, hcl, hlen, hrel⟩ := i2 hb1
          refine ⟨k, el, q, n, f, s1 :: l'', hl, by simp only [claimT, g3, hcl], by simp [hlen], fun i v t hv ht => ?_⟩
          cases i with
          | zero =>
            simp only [List.getElem?_cons_zero, Option.some.injEq] at ht
            subst ht
            exact closed2_any (rw_own hl) g2 (hv _ rfl)
          | succ i => exact hrel i v t (fun s' hs' => hv s' (by simpa using hs')) (by simpa using ht)
    · cases h

theorem claimT_one {s : SV} : True := trivial

/-- What the caller gets. -/
theorem answer_relR {w0 : World} (hm : MemOk F w ρ m U) (hnew : ∀ g, ownOf ρ m g → w0.heap.size ≤ g) {l : List SV} {r : SV} {vs : List Value} (hlen : vs.length = l.length)
    (hrel : ∀ (i : Nat) v s, vs[i]? = some v → l[i]? = some s → Rel w ρ (rwOf F ρ m) U v s)
    (h : (∃ x y b, l = [x] ∧ give2 m x = some (y, b) ∧ r = y) ∨ (l.length ≠ 1 ∧ ∃ l' b, giveT m l = some (l', b) ∧ r = .tup l')) :
    RelR w0 w ρ0 F N (if hh : vs.toArray.size = 1 then vs.toArray[0] else .tuple vs.toArray) r := by
  intro key hk
  have hmono : ∀ b, b < w.heap.size → F b → rwOf F ρ m b := fun b _ h => .inl h
  have hrow : ∀ {k e q n f}, look m k = some (.row e q n f) → (∀ g, blkNo (ρ k) = some g → w0.heap.size ≤ g) ∧
      BlkOk w (updK ρ0 key (ρ k)) (fun b => F b ∨ blkNo (ρ k) = some b) (withK N key) key (.row e q n f) := fun {k e q n f} hl => by
    have hbo : BlkOk w ρ (rwOf F ρ m) U k (.row e q n f) := hm.blk _ (look_mem hl)
    obtain ⟨xs, hown, h1, hr⟩ := hbo
    exact ⟨fun g hg => hnew g ⟨_, look_mem hl, hg⟩, xs, by rw [updK_same]; exact hown, h1, fun i j v hi hj hv => (hr i j v hi hj hv).mono (Keep.refl _ _) (rw_own hl)⟩
  rcases h with ⟨x, y, b, rfl, hg, rfl⟩ | ⟨hne, l', b, hg, rfl⟩
  · match vs, hlen with
    | [v], _ =>
      have hv := hrel 0 v x rfl rfl
      have e0 : (if hh : [v].toArray.size = 1 then [v].toArray[0] else Value.tuple [v].toArray) = v := by simp
      rw [e0]
      obtain ⟨i1, i2⟩ := give2_spec (key := key) (w := w) (ρ := ρ) (F := F) (U := U) (ρ0 := ρ0) (N := N) hg
      have hnt : ∀ t, r ≠ .tup t := by
        rintro t rfl
        unfold give2 at hg
        split at hg
        · split at hg
          · cases hg
          · cases hg
        · split at hg
          · cases hg
          · cases hg
        · cases hc : closed1 x <;> simp only [hc, cond_true, cond_false, reduceCtorEq, Option.some.injEq, Prod.mk.injEq] at hg
          obtain ⟨rfl, _⟩ := hg
          cases hc
      have hcl : ∀ c2, claim2 key r = c2 → claim key r = match c2 with | some (s', b) => (s', some b) | none => (r, none) := by
        intro c2 hc2
        unfold claim
        split
        · rename_i t; exact absurd rfl (hnt t)
        · rw [hc2]; cases c2 <;> rfl
      cases hb : b with
      | false =>
        obtain ⟨rfl, h2, h3⟩ := i1 hb
        rw [hcl _ h3]
        exact closed2_any hmono h2 hv
      | true =>
        obtain ⟨k, e, q, n, f, s'', hl, h3, hr⟩ := i2 hb
        rw [hcl _ h3]
        exact ⟨ρ k, (hrow hl).1, hr v hv, (hrow hl).2⟩
  · have e0 : (if hh : vs.toArray.size = 1 then vs.toArray[0] else Value.tuple vs.toArray) = .tuple vs.toArray := by
      rw [dif_neg (by simp; omega)]
    rw [e0]
    obtain ⟨i1, i2⟩ := giveT_spec (key := key) (w := w) (ρ := ρ) (F := F) (U := U) (ρ0 := ρ0) (N := N) hg
    cases hb : b with
    | false =>
      obtain ⟨rfl, h2, h3⟩ := i1 hb
      simp only [claim, h3]
      exact .tup _ _ (by simpa using hlen) fun i v s hv hs => closed2_any hmono (h2 s (List.mem_of_getElem? hs)) (hrel i v s (by simpa using hv) hs)
    | true =>
      obtain ⟨k, e, q, n, f, l'', hl, h3, hlen'', hr⟩ := i2 hb
      simp only [claim, h3]
      refine ⟨ρ k, (hrow hl).1, .tup _ _ (by simp; omega) fun i v t hv ht => hr i v t (fun s hs => hrel i v s (by simpa using hv) hs) ht, (hrow hl).2⟩

theorem resL_get {s : St} : ∀ {rs : List ResultVar} {l : List SV}, resL T s rs = some l → rs.length = l.length ∧ ∀ (i : Nat) (r : ResultVar) (x : SV), rs[i]? = some r → l[i]? = some x → resOf T s r = some x
  | [], l, h => by simp only [resL, Option.some.injEq] at h; subst h; exact ⟨rfl, fun i r x h => by simp at h⟩
  | r :: rs, l, h => by
    simp only [resL] at h
    split at h
    · rename_i x y hx hy
      simp only [Option.some.injEq] at h
      subst h
      obtain ⟨h1, h2⟩ := resL_get hy
      refine ⟨by simp [h1], fun i r' x' hr hx' => ?_⟩
      cases i with
      | zero => simp at hr hx'; subst hr hx'; exact hx
      | succ i => exact h2 i r' x' (by simpa using hr) (by simpa using hx')
    · cases h

theorem appendS_eq : ∀ (l m : List SV), appendS l m = l ++ m
  | [], m => rfl
  | s :: l, m => by simp [appendS, appendS_eq l m]
theorem uns_eq : ∀ n, uns n = List.replicate n .un
  | 0 => rfl
  | n + 1 => by simp [uns, uns_eq n, List.replicate_succ]
theorem All2.length {α β : Type} {R : α → β → Prop} : ∀ {l : List α} {m : List β}, All2 R l m → l.length = m.length
  | [], [], _ => rfl
  | _ :: l, _ :: m, h => by simp [All2.length h.2]
  | [], _ :: _, h => h.elim
  | _ :: _, [], h => h.elim
theorem All2.get {α β : Type} {R : α → β → Prop} : ∀ {l : List α} {m : List β}, All2 R l m → ∀ (i : Nat) a b, l[i]? = some a → m[i]? = some b → R a b
  | a :: l, b :: m, h, 0, x, y, hx, hy => by simp at hx hy; subst hx hy; exact h.1
  | a :: l, b :: m, h, i + 1, x, y, hx, hy => All2.get h.2 i x y (by simpa using hx) (by simpa using hy)
  | [], [], _, i, a, b, h, _ => by simp at h
  | [], _ :: _, h, _, _, _, _, _ => h.elim
  | _ :: _, [], h, _, _, _, _, _ => h.elim
theorem closedA_spec : ∀ {l : List SV}, closedA l = true → ∀ s ∈ l, closed2 s = true
  | [], _, s, h => by cases h
  | x :: l, h, s, hs => by
    simp only [closedA, Bool.and_eq_true] at h
    rcases List.mem_cons.1 hs with rfl | hs
    · exact h.1
    · exact closedA_spec h.2 s hs
end

/-- THE CONTRACT OF A FUNCTION, by its condition. -/
theorem fn_sound {P : Program} {T : Tys} {G : Pu} (hT : TysOk P T) (hG : PuOk P G) (hm : P.follows .mixedOrders = true) {f : FuncId} {fn : Func} (hf : P.funcs[f]? = some fn) {args : List SV} {r : SV}
    (h : vcFn std T G fn args fun x => x = r) : GoodP P f args r := by
  intro w ρ0 rw0 N vs hfr hrw hargs
  unfold vcFn at h
  split at h
  · rename_i code hbody
    cases hb : (closedA args && Nat.ble (len args) fn.ntmps) <;> simp only [hb, cond_true, cond_false] at h
    simp only [Bool.and_eq_true] at hb
    obtain ⟨hcl, hle⟩ := hb
    have hle' : args.length ≤ fn.ntmps := by rw [← len_eq]; exact Nat.le_of_ble_eq_true hle
    have hlen := hargs.length
    let c : Ctx := { w0 := w, ρ0 := ρ0, U0 := fun _ => False, rw0 := fun _ => False, F := rw0 }
    let a0 : Act := { tmps := vs.toArray ++ Array.replicate (fn.ntmps - vs.toArray.size) undef, defers := [] }
    have hsim : Sim c (upTo (start fn args).next) (start fn args) a0 w := by
      refine ⟨ρ0, rfl, ?_, fun t => ?_, ⟨fun e he => (by cases he), fun e he => (by cases he), List.Pairwise.nil, hrw⟩, fun k hk => hk.elim, fun k hk => hk.elim, Keep.refl _ _, fun b hb => ?_⟩
      · simp only [a0, start, appendS_eq, uns_eq]
        simp [len_eq]
        omega
      · simp only [a0, start, appendS_eq, uns_eq, len_eq]
        rw [getAt_eq, Array.getD_eq_getD_getElem?]
        simp only [Array.getElem?_append, List.getElem?_append, List.size_toArray, List.getElem?_toArray]
        by_cases ht : t < args.length
        · rw [if_pos (by omega), if_pos ht]
          have hv : vs[t]? = some (vs[t]'(by omega)) := List.getElem?_eq_getElem (by omega)
          have hs : args[t]? = some (args[t]'ht) := List.getElem?_eq_getElem ht
          rw [hv, hs]
          exact closed2_any (fun b _ hb => by
            rcases hb with hb | ⟨e, he, _⟩
            · exact hb
            · cases he) (closedA_spec hcl _ (List.mem_of_getElem? hs)) (hargs.get t _ _ hv hs)
        · rw [if_neg (by omega), if_neg ht, List.getElem?_replicate, Array.getElem?_replicate]
          split
          · rw [if_pos (by omega)]; exact .un
          · rw [if_neg (by omega)]; exact .un
      · obtain ⟨e, he, _⟩ := hb
        cases he
    have hwp := (vc_sound (P := P) (c := c) hT hG hm (lo := 0) (fun k hk => hk.elim) code none (start fn args) _ h).1 rfl a0 w hsim
    refine calls_of_wp hf hbody (wp_mono hwp fun e a w' hq => ?_)
    have done : ∀ s, answered T fn (fun x => x = r) s → Sim c (upTo s.next) s a w' → a.defers = [] ∧ ∃ v, (results fn a.tmps).run P w' = .ok v w' ∧ ∃ v', Ending.returned v = .returned v' ∧ Ext w w' ∧ RelR w w' ρ0 rw0 N v' r := by
      intro s hans hs
      obtain ⟨ρ, hs⟩ := hs
      refine ⟨hs.dfr, ?_⟩
      unfold answered at hans
      cases hr : answer T s fn.results.toList with
      | none => rw [hr] at hans; exact hans.elim
      | some x =>
        rw [hr] at hans
        simp only at hans
        subst hans
        unfold answer at hr
        cases hl : resL T s fn.results.toList with
        | none => rw [hl] at hr; cases hr
        | some l =>
          obtain ⟨g1, g2⟩ := resL_get hl
          -- the values
          have hval : ∀ rv x, resOf T s rv = some x → ∃ v, (match rv with | .tmp t => (pure (a.tmps.getD t undef) : Sem Value) | .cell p t => do loadVar t (← asAddr (a.tmps.getD p undef))).run P w' = .ok v w' ∧ Rel w' ρ (rwOf c.F ρ s.mem) (upTo s.next) v x := by
            intro rv x hx
            cases rv with
            | tmp t =>
              simp only [resOf, Option.some.injEq] at hx
              subst hx
              exact ⟨_, rfl, hs.tmps t⟩
            | cell p t =>
              simp only [resOf] at hx
              split at hx
              · rename_i k off ty hp hty
                split at hx
                · rename_i u cs hlk
                  have hrp := hs.tmps p
                  rw [hp] at hrp
                  cases hble : Nat.ble (off + ty.size) (len cs) <;> simp only [hble, cond_true, cond_false, reduceCtorEq] at hx
                  have hld := run_load_box (P := P) (hT _ _ hty) hs.mem hrp hlk (by rw [← len_eq]; exact Nat.le_of_ble_eq_true hble)
                  obtain ⟨z, z1, z2⟩ := hld
                  refine ⟨z, ?_, ?_⟩
                  · dsimp only
                    generalize a.tmps.getD p undef = pv at hrp z1 ⊢
                    cases hrp
                    simpa [Instr.loadAt, Instr.sureAddr, asAddr] using z1
                  · cases hag : ty.agg <;> simp only [hag, cond_true, cond_false, Option.some.injEq] at hx z2
                    · subst hx; exact z2
                    · subst hx; rw [takeFrom_eq]; exact z2
                · cases hx
              · cases hx
          have hall : ∃ vs' : List Value, vs'.length = l.length ∧ (fn.results.toList.mapM fun (rv : ResultVar) => match rv with
              | .tmp t => (pure (a.tmps.getD t undef) : Sem Value)
              | .cell p t => do loadVar t (← asAddr (a.tmps.getD p undef))).run P w' = .ok vs' w' ∧ ∀ (i : Nat) v x, vs'[i]? = some v → l[i]? = some x → Rel w' ρ (rwOf c.F ρ s.mem) (upTo s.next) v x := by
            have key : ∀ (rs : List ResultVar) (l : List SV), rs.length = l.length → (∀ (i : Nat) (r : ResultVar) (x : SV), rs[i]? = some r → l[i]? = some x → resOf T s r = some x) → ∃ vs' : List Value, vs'.length = l.length ∧ (rs.mapM fun (rv : ResultVar) => match rv with
              | .tmp t => (pure (a.tmps.getD t undef) : Sem Value)
              | .cell p t => do loadVar t (← asAddr (a.tmps.getD p undef))).run P w' = .ok vs' w' ∧ ∀ (i : Nat) v x, vs'[i]? = some v → l[i]? = some x → Rel w' ρ (rwOf c.F ρ s.mem) (upTo s.next) v x := by
              intro rs
              induction rs with
              | nil => intro l hl _; cases l with
                | nil => exact ⟨[], rfl, rfl, fun i v x h => by simp at h⟩
                | cons x l => simp at hl
              | cons rv rs ih =>
                intro l hl hres
                cases l with
                | nil => simp at hl
                | cons x l =>
                  obtain ⟨vs', q1, q2, q3⟩ := ih l (by simpa using hl) (fun i r x hr hx => hres (i + 1) r x (by simpa using hr) (by simpa using hx))
                  obtain ⟨v, p1, p2⟩ := hval rv x (hres 0 rv x rfl rfl)
                  refine ⟨v :: vs', by simp [q1], ?_, fun i u y hu hy => ?_⟩
                  · rw [List.mapM_cons, Sem.run_bind, p1]
                    simp only [Result.andThen_ok, Sem.run_bind, q2]
                    rfl
                  · cases i with
                    | zero => simp at hu hy; subst hu hy; exact p2
                    | succ i => exact q3 i u y (by simpa using hu) (by simpa using hy)
            exact key fn.results.toList l g1 g2
          obtain ⟨vs', q1, q2, q3⟩ := hall
          refine ⟨if hh : vs'.toArray.size = 1 then vs'.toArray[0] else .tuple vs'.toArray, ?_, _, rfl, hs.keep, ?_⟩
          · unfold results
            rw [Array.mapM_eq_mapM_toList, Sem.run_bind, Sem.run_map]
            erw [q2]
            rfl
          · refine answer_relR hs.mem (fun g hg => ?_) q1 q3 ?_
            · rcases hs.sub g hg with h' | h'
              · exact h'.elim
              · exact h'
            · rw [hl] at hr
              split at hr
              · rename_i x' heq
                cases heq
                split at hr
                · rename_i y b hg
                  cases hr
                  exact .inl ⟨x', _, b, rfl, hg, rfl⟩
                · cases hr
              · rename_i l' hne heq
                cases heq
                split at hr
                · rename_i l' b hg
                  cases hr
                  refine .inr ⟨fun e => ?_, l', b, hg, rfl⟩
                  match l, e with
                  | [x'], _ => exact hne x' rfl
                · cases hr
              · cases hr
    cases e with
    | normal =>
      obtain ⟨s, hk, hs⟩ := hq
      obtain ⟨h1, v, h2, h3⟩ := done s hk hs
      exact ⟨h1, v, h2, h3⟩
    | ret =>
      obtain ⟨s, hk, hs⟩ := hq
      obtain ⟨h1, v, h2, h3⟩ := done s hk hs
      exact ⟨h1, v, h2, h3⟩
    | exit id => obtain ⟨s, hk, _⟩ := hq; exact hk.elim
    | goto l => obtain ⟨s, hk, _⟩ := hq; exact hk.elim
    | panic ch => exact hq.elim
    | outgrown => exact hq.elim
  · exact h.elim
end Go.Vc
