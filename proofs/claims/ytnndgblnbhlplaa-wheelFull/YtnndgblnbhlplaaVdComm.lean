/- Two operations of which neither waits for the other one come to the same in either order. -/
import Derived.Test.YtnndgblnbhlplaaVdRegion
set_option linter.unusedVariables false
set_option linter.unusedSimpArgs false
namespace Go.Vd
open Go.RowKit

section
variable {A : Ar} {T : Tys} {G : Pu}

/-! ### An operation looks at its operands alone -/
theorem evAll_congr {e e' : Operand → SV} : ∀ {l : List Operand}, (∀ x ∈ l, e x = e' x) → evAll e l = evAll e' l
  | [], _ => rfl
  | x :: l, h => by simp only [evAll, h x (List.mem_cons_self ..), evAll_congr fun y hy => h y (List.mem_cons_of_mem _ hy)]
theorem evOpt_congr {e e' : Operand → SV} {x : Option Operand} (h : ∀ y, x = some y → e y = e' y) : evOpt e x = evOpt e' x := by
  cases x with
  | none => rfl
  | some y => simp only [evOpt, h y rfl]
theorem fillIn_congr {e e' : Operand → SV} {pl : Nat → Option (Nat × Nat)} : ∀ {l : List (Nat × Operand)} {c : List SV}, (∀ x ∈ l, e x.2 = e' x.2) → fillIn e pl c l = fillIn e' pl c l
  | [], _, _ => rfl
  | (i, x) :: l, c, h => by
    have h0 : e x = e' x := h (i, x) (List.mem_cons_self ..)
    simp only [fillIn, h0]
    split
    · rename_i off size l' _ _
      cases (Nat.beq (lenW l') size && Nat.ble (off + size) (lenW c)) <;> simp only [cond_true, cond_false]
      exact fillIn_congr fun y hy => h y (List.mem_cons_of_mem _ hy)
    · rfl
theorem chunks_congr {e e' : Operand → SV} {k : Nat} : ∀ {l : List (Nat × Operand)} {i : Nat}, (∀ x ∈ l, e x.2 = e' x.2) → chunks e k i l = chunks e' k i l
  | [], _, _ => rfl
  | (j, x) :: l, i, h => by
    have h0 : e x = e' x := h (j, x) (List.mem_cons_self ..)
    simp only [chunks, h0, chunks_congr (l := l) (i := i + 1) fun y hy => h y (List.mem_cons_of_mem _ hy)]
theorem needsAll_congr {e e' : Operand → SV} : ∀ {l : List Operand}, (∀ x ∈ l, e x = e' x) → needsAll A e l = needsAll A e' l
  | [], _ => rfl
  | x :: l, h => by simp only [needsAll, h x (List.mem_cons_self ..), needsAll_congr fun y hy => h y (List.mem_cons_of_mem _ hy)]

theorem mem_parts {parts : Array (Nat × Operand)} {x : Nat × Operand} (h : x ∈ parts.toList) (t : TypeId) : x.2 ∈ (Op.build t parts).operands.toList := by
  simp only [Op.operands]
  exact List.mem_map.2 ⟨x, h, rfl⟩
theorem mem_parts' {parts : Array (Nat × Operand)} {x : Nat × Operand} (h : x ∈ parts.toList) (t n : Nat) : x.2 ∈ (Op.buildSlice t n parts).operands.toList := by
  simp only [Op.operands]
  exact List.mem_map.2 ⟨x, h, rfl⟩
theorem mem_args {c : Call} {x : Operand} (h : x ∈ c.args.toList) : x ∈ (Op.call c).operands.toList := by
  simp only [Op.operands, Call.operands]
  simp
  right
  simpa using h

theorem pureOp_congr {op : Op} {e e' : Operand → SV} {m : Mem} (h : ∀ x ∈ op.operands.toList, e x = e' x) : pureOp A T G op e m = pureOp A T G op e' m := by
  cases op with
  | move x => simp only [pureOp, h x (by simp [Op.operands])]
  | assign x => simp only [pureOp, h x (by simp [Op.operands])]
  | nilCheck x => simp only [pureOp, h x (by simp [Op.operands])]
  | pick c a b => simp only [pureOp, h c (by simp [Op.operands]), h a (by simp [Op.operands]), h b (by simp [Op.operands])]
  | load t p => simp only [pureOp, h p (by simp [Op.operands])]
  | fieldAddr t x i => simp only [pureOp, h x (by simp [Op.operands])]
  | indexAddr t x i => simp only [pureOp, h x (by simp [Op.operands]), h i (by simp [Op.operands])]
  | index t x i => simp only [pureOp, h x (by simp [Op.operands]), h i (by simp [Op.operands])]
  | binOp b t x y t' => simp only [pureOp, h x (by simp [Op.operands]), h y (by simp [Op.operands])]
  | unOp b t x => cases b <;> simp only [pureOp, h x (by simp [Op.operands])]
  | convert s d x => simp only [pureOp, h x (by simp [Op.operands])]
  | extract t i => simp only [pureOp, h t (by simp [Op.operands])]
  | field t x i => simp only [pureOp, h x (by simp [Op.operands])]
  | build t parts =>
    have := fun pl c => fillIn_congr (e := e) (e' := e') (pl := pl) (l := parts.toList) (c := c) fun x hx => h x.2 (mem_parts hx t)
    simp only [pureOp, this]
  | buildSlice t n parts =>
    have := fun k i => chunks_congr (e := e) (e' := e') (k := k) (l := parts.toList) (i := i) fun x hx => h x.2 (mem_parts' hx t n)
    simp only [pureOp, this]
  | slice t x lo hi mx =>
    have h1 := h x (by simp [Op.operands])
    have h2 : evOpt e lo = evOpt e' lo := evOpt_congr fun y hy => h y (by simp [Op.operands, hy])
    have h3 : evOpt e hi = evOpt e' hi := evOpt_congr fun y hy => h y (by simp [Op.operands, hy])
    have h4 : evOpt e mx = evOpt e' mx := evOpt_congr fun y hy => h y (by simp [Op.operands, hy])
    simp only [pureOp, h1, h2, h3, h4]
  | makeFunc fn first captured =>
    have ha : evAll e captured.toList = evAll e' captured.toList := evAll_congr fun x hx => h x (by simp [Op.operands]; exact .inr (by simpa using hx))
    have hx : ∀ x, first.toList = [x] → e x = e' x := fun x hx => h x (by
      have : x ∈ first := by rw [← Array.mem_toList_iff, hx]; simp
      simp [Op.operands, this])
    cases fn <;> simp only [pureOp, ha]
    split
    · rfl
    · rename_i x hxa
      rw [hx x hxa]
    · rfl
  | makeInterface t x => simp only [pureOp, h x (by simp [Op.operands])]
  | call c =>
    obtain ⟨callee, args, ts⟩ := c
    have ha : evAll e args.toList = evAll e' args.toList := evAll_congr fun x hx => h x (mem_args hx)
    cases callee with
    | value f =>
      cases f with
      | tmp t => simp only [pureOp, ha, h (.tmp t) (by simp [Op.operands, Call.operands])]
      | func | const | global => simp only [pureOp, ha]
    | invoke r n => rfl
    | builtin b =>
      have hx : ∀ x, args.toList = [x] → e x = e' x := fun x hx => h x (mem_args (by rw [hx]; simp))
      have hxy : ∀ x y, args.toList = [x, y] → e x = e' x ∧ e y = e' y := fun x y hx => ⟨h x (mem_args (by rw [hx]; simp)), h y (mem_args (by rw [hx]; simp))⟩
      cases b <;> first
        | rfl
        | (simp only [pureOp]
           split
           · rename_i x y hxa
             rw [(hxy x y hxa).1, (hxy x y hxa).2]
           · rfl)
        | (simp only [pureOp]
           split
           · rename_i x hxa
             rw [hx x hxa]
           · rfl)
        | (simp only [pureOp]
           split
           · rename_i x t hxa _
             rw [hx x hxa]
           · rfl)
  | _ => rfl

/-! ### And at memory under the keys that these name -/
theorem ment2_of1 {k : Nat} {s : SV} (h : ment1 k s) : ment2 k s := by cases s <;> first | exact h | cases h
theorem ment1_of0 {k : Nat} {s : SV} (h : ment0 k s) : ment1 k s := by cases s <;> first | exact h | cases h
theorem ment3_of2 {k : Nat} {s : SV} (h : ment2 k s) : ment3 k s := by cases s <;> first | exact h | cases h
theorem ment_of3 {k : Nat} {s : SV} (h : ment3 k s) : ment k s := by cases s <;> first | exact h | cases h
theorem ment_of2 {k : Nat} {s : SV} (h : ment2 k s) : ment k s := ment_of3 (ment3_of2 h)
theorem ment_of1 {k : Nat} {s : SV} (h : ment1 k s) : ment k s := ment_of2 (ment2_of1 h)
theorem deown_mem {m m' : Mem} {s : SV} (h : ∀ k, ment1 k s → look m k = look m' k) : deown A m s = deown A m' s := by
  cases s with
  | own k => simp only [deown, h k rfl]
  | part k => simp only [deown, h k rfl]
  | kid k q i => simp only [deown, h k (.inl rfl)]
  | fkid k q n i => simp only [deown, h k (.inl rfl)]
  | krun k q n => simp only [deown, h k (.inl rfl)]
  | _ => rfl
theorem plain_mem {m m' : Mem} {s : SV} (h : ∀ k, ment1 k s → look m k = look m' k) : plain m s = plain m' s := by
  cases s with
  | own k => simp only [plain, h k rfl]
  | _ => rfl
theorem deownL_mem {m m' : Mem} : ∀ {l : List SV}, (∀ k, (∃ s ∈ l, ment1 k s) → look m k = look m' k) → deownL A m l = deownL A m' l
  | [], _ => rfl
  | s :: l, h => by
    simp only [deownL, deown_mem (A := A) (m := m) (m' := m') (s := s) fun k hk => h k ⟨s, List.mem_cons_self .., hk⟩, deownL_mem (l := l) fun k ⟨t, ht, hk⟩ => h k ⟨t, List.mem_cons_of_mem _ ht, hk⟩]
theorem deownAll_mem {m m' : Mem} : ∀ {l : List SV}, (∀ s ∈ l, ∀ k, ment2 k s → look m k = look m' k) → deownAll A m l = deownAll A m' l
  | [], _ => rfl
  | s :: l, h => by
    have ih := deownAll_mem (l := l) fun t ht => h t (List.mem_cons_of_mem _ ht)
    have hs := h s (List.mem_cons_self ..)
    cases s with
    | agg q => simp only [deownAll, ih, deownL_mem (A := A) (m := m) (m' := m') (l := q) hs]
    | _ => simp only [deownAll, ih, deown_mem (A := A) (m := m) (m' := m') fun k hk => hs k (ment2_of1 hk)]
theorem evAll_mem {e : Operand → SV} {s : SV} : ∀ {l : List Operand}, s ∈ evAll e l → ∃ x ∈ l, e x = s
  | [], h => by cases h
  | x :: l, h => by
    rcases List.mem_cons.1 h with rfl | h
    · exact ⟨x, List.mem_cons_self .., rfl⟩
    · obtain ⟨y, hy, e⟩ := evAll_mem h
      exact ⟨y, List.mem_cons_of_mem _ hy, e⟩

theorem pureOp_mem {op : Op} {e : Operand → SV} {m m' : Mem} (h : ∀ x ∈ op.operands.toList, ∀ k, ment2 k (e x) → look m k = look m' k) : pureOp A T G op e m = pureOp A T G op e m' := by
  cases op with
  | load t p =>
    have hp := h p (by simp [Op.operands])
    simp only [pureOp]
    cases he : e p with
    | ptr k off => rw [he] at hp; cases T t <;> simp only [hp k rfl]
    | iptr k b n i => rw [he] at hp; cases T t <;> simp only [hp k rfl]
    | eptr k q i off => rw [he] at hp; cases T t <;> simp only [hp k rfl]
    | _ => cases T t <;> rfl
  | indexAddr t x i =>
    have hp := h x (by simp [Op.operands])
    simp only [pureOp]
    cases he : e x with
    | own k => rw [he] at hp; cases e i <;> cases T t <;> simp only [hp k rfl]
    | part k => rw [he] at hp; cases e i <;> cases T t <;> simp only [hp k rfl]
    | _ => cases e i <;> cases T t <;> rfl
  | slice t x lo hi mx =>
    have hp := h x (by simp [Op.operands])
    simp only [pureOp]
    cases he : e x with
    | own k => rw [he] at hp; simp only [hp k rfl]
    | part k => rw [he] at hp; simp only [hp k rfl]
    | _ => rfl
  | makeFunc fn first captured => cases fn <;> rfl
  | convert s d x => simp only [pureOp, deown_mem (A := A) (m := m) (m' := m') (s := e x) fun k hk => h x (by simp [Op.operands]) k (ment2_of1 hk)]
  | unOp b t x => cases b <;> rfl
  | call c =>
    obtain ⟨callee, args, ts⟩ := c
    cases callee with
    | value f =>
      cases f <;> first | rfl | skip
      all_goals
        have : deownAll A m (evAll e args.toList) = deownAll A m' (evAll e args.toList) := deownAll_mem fun s hs k hk => by
          obtain ⟨x, hx, rfl⟩ := evAll_mem hs
          exact h x (mem_args hx) k hk
        simp only [pureOp, this]
    | invoke r n => rfl
    | builtin b =>
      cases b <;> first | rfl | skip
      simp only [pureOp]
      split
      · rename_i x t hxa _
        rw [deown_mem (A := A) (m := m) (m' := m') (s := e x) fun k hk => h x (mem_args (by rw [hxa]; simp)) k (ment2_of1 hk)]
      · rfl
  | _ => rfl

/-- What doesn't touch memory hangs on none of it. -/
theorem pureOp_none {op : Op} {e : Operand → SV} (m m' : Mem) (h : touch op = .none) : pureOp A T G op e m = pureOp A T G op e m' := by
  cases op with
  | unOp b t x => cases b <;> rfl
  | load | indexAddr | convert | slice => cases h
  | makeFunc fn first captured => cases fn <;> rfl
  | call c =>
    obtain ⟨callee, args, ts⟩ := c
    cases callee with
    | value f => cases h
    | invoke r n => rfl
    | builtin b => cases b <;> first | rfl | cases h
  | _ => rfl

/-! ### What an operation does with memory -/
/-- It leaves it, or puts one block more in, under its own key; so wherever the keys that it names say the same. -/
theorem coreU_mem {op : Op} {e : Operand → SV} {m m' m1 : Mem} {key : Nat} {p : Option Prop} {r : SV} (ht : touch op ≠ .writes)
    (h : touch op = .none ∨ ∀ x ∈ op.operands.toList, ∀ k, ment2 k (e x) → look m k = look m' k) (hc : coreU A T G op e m key = some (p, r, m1)) :
    (m1 = m ∧ coreU A T G op e m' key = some (p, r, m')) ∨ (touch op ≠ .none ∧ ∃ b, m1 = ins m key b ∧ coreU A T G op e m' key = some (p, r, ins m' key b)) := by
  have plain : ∀ op : Op, pureOp A T G op e m = pureOp A T G op e m' → (match pureOp A T G op e m with | some (p, r) => some (p, r, m) | none => none) = some (p, r, m1) →
      (m1 = m ∧ (match pureOp A T G op e m' with | some (p, r) => some (p, r, m') | none => none) = some (p, r, m')) := by
    intro op hm hh
    rw [hm] at hh
    split at hh
    · rename_i p' r' hp'
      simp only [Option.some.injEq, Prod.mk.injEq] at hh
      obtain ⟨rfl, rfl, rfl⟩ := hh
      exact ⟨rfl, rfl⟩
    · cases hh
  have hpm : pureOp A T G op e m = pureOp A T G op e m' := by
    rcases h with h | h
    · exact pureOp_none m m' h
    · exact pureOp_mem h
  cases op with
  | store => exact absurd rfl ht
  | alloc t =>
    simp only [coreU] at hc ⊢
    split at hc
    · rename_i ty hty
      cases hzz : zOk ty.zero <;> simp only [hzz, cond_true, cond_false, reduceCtorEq, Option.some.injEq, Prod.mk.injEq] at hc ⊢
      obtain ⟨rfl, rfl, rfl⟩ := hc
      exact .inr ⟨(fun e => by cases e), _, rfl, rfl, rfl, rfl⟩
    · cases hc
  | box t x =>
    simp only [coreU] at hc ⊢
    split at hc
    · simp only [Option.some.injEq, Prod.mk.injEq] at hc
      obtain ⟨rfl, rfl, rfl⟩ := hc
      exact .inr ⟨(fun e => by cases e), _, rfl, rfl⟩
    · cases hc
  | makeSlice t x y =>
    refine .inr ⟨(fun e => by cases e), ?_⟩
    simp only [coreU] at hc ⊢
    split at hc
    · split at hc
      · split at hc
        · rename_i te hte
          split at hc
          · rename_i kk _ _ e1 k1 hkr hz0
            cases hb : Nat.beq _ 1 <;> rw [hb] at hc <;> simp only [cond_true, cond_false, reduceCtorEq, Option.some.injEq, Prod.mk.injEq] at hc
            obtain ⟨rfl, rfl, rfl⟩ := hc
            exact ⟨_, rfl, rfl⟩
          · cases hb : (closedL te.zero && Nat.beq (len te.zero) _) <;> rw [hb] at hc <;> simp only [cond_true, cond_false, reduceCtorEq, Option.some.injEq, Prod.mk.injEq] at hc
            obtain ⟨rfl, rfl, rfl⟩ := hc
            exact ⟨_, rfl, rfl⟩
        · cases hc
      · cases hc
    · cases hc
  | buildSlice t n parts =>
    cases n with
    | zero =>
      simp only [coreU] at hc ⊢
      split at hc
      · split at hc
        · simp only [Option.some.injEq, Prod.mk.injEq] at hc
          obtain ⟨rfl, rfl, rfl⟩ := hc
          exact .inr ⟨(fun e => by cases e), _, rfl, rfl⟩
        · cases hc
      · cases hc
    | succ n =>
      simp only [coreU] at hc ⊢
      cases hbs : bsOf T t (n + 1) parts e with
      | some y =>
        rw [hbs] at hc
        simp only [Option.some.injEq, Prod.mk.injEq] at hc
        obtain ⟨rfl, rfl, rfl⟩ := hc
        exact .inr ⟨(fun e => by cases e), _, rfl, rfl⟩
      | none =>
        rw [hbs] at hc
        exact .inl (plain _ hpm hc)
  | call c =>
    obtain ⟨callee, args, ts⟩ := c
    cases callee with
    | value f =>
      cases f with
      | func f =>
        simp only [coreU] at hc ⊢
        rw [hpm] at hc
        split at hc
        · split at hc
          · rename_i r' b hcl
            simp only [Option.some.injEq, Prod.mk.injEq] at hc
            obtain ⟨rfl, rfl, rfl⟩ := hc
            exact .inr ⟨(fun e => by cases e), _, rfl, rfl⟩
          · rename_i r' hcl
            simp only [Option.some.injEq, Prod.mk.injEq] at hc
            obtain ⟨rfl, rfl, rfl⟩ := hc
            exact .inl ⟨rfl, rfl⟩
        · cases hc
      | tmp | const | global => exact .inl (plain _ hpm hc)
    | invoke r n => exact .inl (plain _ hpm hc)
    | builtin b => cases b <;> first | exact absurd rfl ht | exact .inl (plain _ hpm hc)
  | convert src dst x =>
    simp only [coreU] at hc ⊢
    cases hcv : cvOf T src dst (e x) with
    | some y =>
      rw [hcv] at hc
      simp only [Option.some.injEq, Prod.mk.injEq] at hc
      obtain ⟨rfl, rfl, rfl⟩ := hc
      exact .inr ⟨(fun e => by cases e), _, rfl, rfl⟩
    | none =>
      rw [hcv] at hc
      exact .inl (plain _ hpm hc)
  | _ => exact .inl (plain _ hpm hc)

theorem coreU_congr {op : Op} {e e' : Operand → SV} {m : Mem} {key : Nat} (h : ∀ x ∈ op.operands.toList, e x = e' x) : coreU A T G op e m key = coreU A T G op e' m key := by
  have hp := pureOp_congr (A := A) (T := T) (G := G) (m := m) h
  cases op with
  | alloc t => rfl
  | box t x => simp only [coreU, h x (by simp [Op.operands])]
  | store t p x => simp only [coreU, h p (by simp [Op.operands]), h x (by simp [Op.operands])]
  | makeSlice t x y => simp only [coreU, h x (by simp [Op.operands]), h y (by simp [Op.operands])]
  | buildSlice t n parts =>
    cases n with
    | zero => rfl
    | succ n =>
      have hch := fun k i => chunks_congr (e := e) (e' := e') (k := k) (l := parts.toList) (i := i) fun x hx => h x.2 (mem_parts' hx t (n + 1))
      have hb : bsOf T t (n + 1) parts e = bsOf T t (n + 1) parts e' := by simp only [bsOf, hch]
      simp only [coreU, hp, hb]
  | convert src dst x => simp only [coreU, hp, h x (by simp [Op.operands])]
  | call c =>
    obtain ⟨callee, args, ts⟩ := c
    cases callee with
    | value f => cases f <;> simp only [coreU, hp]
    | invoke r n => simp only [coreU, hp]
    | builtin b =>
      cases b <;> first
        | (simp only [coreU, hp]; done)
        | skip
      simp only [coreU]
      split
      · rename_i x y t u hxa _
        rw [h x (mem_args (by rw [hxa]; simp)), h y (mem_args (by rw [hxa]; simp))]
      · rfl
  | _ => simp only [coreU, hp]

theorem coreG_congr {op : Op} {gv : SV} {want : Bool} {e e' : Operand → SV} {m : Mem} {base : Nat} (h : ∀ x ∈ op.operands.toList, e x = e' x) : coreG A T G op gv want e m base = coreG A T G op gv want e' m base := by
  have h1 := pureOp_congr (A := A) (T := T) (G := G) (op := op) (m := m) (e := envG e op) (e' := envG e' op) fun x hx => by
    unfold envG
    split
    · rename_i t y z
      cases x with
      | tmp t' => simp only [h _ hx]
      | _ => exact h _ hx
    · simp only [bareE, h x hx]
  have h2 : needG A e op = needG A e' op := by
    unfold needG
    split
    · rename_i t y z
      rw [h (.tmp t) (by simp [Op.operands])]
    · exact needsAll_congr (A := A) h
  simp only [coreG, h1, h2]

theorem coreG_mem {op : Op} {gv : SV} {want : Bool} {e : Operand → SV} {m m' m1 : Mem} {base : Nat} {p : Option Prop} {r : SV}
    (h : touch op = .none ∨ ∀ x ∈ op.operands.toList, ∀ k, ment2 k (bareE e x) → look m k = look m' k) (hc : coreG A T G op gv want e m base = some (p, r, m1)) :
    m1 = m ∧ coreG A T G op gv want e m' base = some (p, r, m') := by
  have hpm : pureOp A T G op (envG e op) m = pureOp A T G op (envG e op) m' := by
    rcases h with h | h
    · exact pureOp_none m m' h
    · cases op with
      | pick c y z => exact pureOp_none m m' rfl
      | _ => exact pureOp_mem h
  simp only [coreG] at hc ⊢
  rw [hpm] at hc
  split at hc
  · split at hc
    · cases hc
    · cases hc
    · simp only [Option.some.injEq, Prod.mk.injEq] at hc
      obtain ⟨rfl, rfl, rfl⟩ := hc
      exact ⟨rfl, rfl⟩
  · cases hc

/-! ### Lists of slots, lists of blocks -/
theorem put_comm (tmps : List SV) {d d' : Option Nat} (x y : SV) (h : ∀ k, d = some k → d' ≠ some k) : put (put tmps d x) d' y = put (put tmps d' y) d x := by
  cases d with
  | none => cases d' <;> rfl
  | some k =>
    cases d' with
    | none => rfl
    | some k' =>
      simp only [put, setAt_eq]
      rw [List.set_comm]
      intro e
      exact h k rfl (by rw [e])
theorem getAt_put {tmps : List SV} {d : Option Nat} {x : SV} {t : Nat} (h : ∀ k, d = some k → k ≠ t) : getAt (put tmps d x) t = getAt tmps t := by
  cases d with
  | none => rfl
  | some k => simp only [put, setAt_eq, getAt_eq, List.getElem?_set, if_neg (h k rfl)]
theorem ev_put {gl : Nat → SV} {tmps : List SV} {d : Option Nat} {x : SV} {y : Operand} (h : ∀ k, d = some k → y ≠ .tmp k) : ev gl (put tmps d x) y = ev gl tmps y := by
  cases y with
  | tmp t => exact getAt_put fun k hk e => h k hk (by rw [e])
  | const v => cases v <;> rfl
  | _ => rfl
theorem ins_comm {a b : Blk} {k k' : Nat} (h : k ≠ k') : ∀ m : Mem, ins (ins m k a) k' b = ins (ins m k' b) k a
  | [] => by
    simp only [ins]
    cases h1 : Nat.ble k k' <;> cases h2 : Nat.ble k' k <;> simp only [cond_true, cond_false]
    · have : ¬ k ≤ k' := fun e => by rw [Nat.ble_eq_true_of_le e] at h1; cases h1
      have : ¬ k' ≤ k := fun e => by rw [Nat.ble_eq_true_of_le e] at h2; cases h2
      omega
    · have := Nat.le_of_ble_eq_true h1
      have := Nat.le_of_ble_eq_true h2
      omega
  | (q, c) :: m => by
    have ih := ins_comm (a := a) (b := b) h m
    have t1 : ∀ x y : Nat, Nat.ble x y = true ↔ x ≤ y := fun x y => ⟨Nat.le_of_ble_eq_true, Nat.ble_eq_true_of_le⟩
    have t2 : ∀ x y : Nat, Nat.ble x y = false ↔ ¬ x ≤ y := fun x y => by rw [← t1, Bool.not_eq_true]
    simp only [ins]
    cases h1 : Nat.ble q k <;> cases h2 : Nat.ble q k' <;> simp only [cond_true, cond_false, ins, h1, h2]
    · rw [ih]
    · have h3 : Nat.ble k k' = true := by rw [t1]; rw [t2] at h1; rw [t1] at h2; omega
      have h4 : Nat.ble k' k = false := by rw [t2]; rw [t2] at h1; rw [t1] at h2; omega
      simp only [h4, cond_false]
    · have h3 : Nat.ble k k' = false := by rw [t2]; rw [t1] at h1; rw [t2] at h2; omega
      simp only [h3, cond_false, ins, h2]
    · cases h3 : Nat.ble k k' <;> cases h4 : Nat.ble k' k <;> simp only [cond_true, cond_false, ins, h1, h2]
      · rw [t2] at h3 h4; omega
      · rw [t1] at h3 h4; omega
theorem look_ins {b : Blk} {k q : Nat} (h : q ≠ k) : ∀ m : Mem, look (ins m k b) q = look m q
  | [] => by
    simp only [ins, look]
    cases hb : Nat.beq k q
    · rfl
    · exact absurd (Nat.eq_of_beq_eq_true hb).symm h
  | (j, c) :: m => by
    simp only [ins]
    cases Nat.ble j k <;> simp only [cond_true, cond_false, look, look_ins h m]
    cases hb : Nat.beq k q
    · rfl
    · exact absurd (Nat.eq_of_beq_eq_true hb).symm h

/-! ### The two orders -/
def core (A : Ar) (T : Tys) (G : Pu) (all : List Oper) (base i : Nat) (o : Oper) (tmps : List SV) (m : Mem) : Option (Option Prop × SV × Mem) :=
  match o.guard with
  | some (j, want) => match dstOf all j with
    | some d => coreG A T G o.op (getAt tmps d) want (ev T.gl tmps) m base
    | none => none
  | none => coreU A T G o.op (ev T.gl tmps) m (base + i)
def coreF (A : Ar) (T : Tys) (G : Pu) (all : List Oper) (base i : Nat) (o : Oper) (tmps : List SV) (m : Mem) : Option (Option Prop × SV × Mem) := frzU (frzD all o) (base + i) (core A T G all base i o tmps m)
theorem coreF_eq {all : List Oper} {base i : Nat} {o : Oper} {tmps : List SV} {m : Mem} (h : isAp o.op = false) : coreF A T G all base i o tmps m = core A T G all base i o tmps m := by
  unfold coreF frzD
  rw [h]
  exact frzU_false _
theorem isAp_touch {op : Op} (h : isAp op = true) : touch op = .writes := by
  cases op with
  | call c =>
    obtain ⟨callee, args, ts⟩ := c
    cases callee with
    | builtin b => cases b <;> first | rfl | cases h
    | value f => cases h
    | invoke x n => cases h
  | _ => cases h
theorem apG {op : Op} {gv : SV} {want : Bool} {e : Operand → SV} {m : Mem} {base : Nat} (h : isAp op = true) : coreG A T G op gv want e m base = none := by
  cases op with
  | call c =>
    obtain ⟨callee, args, ts⟩ := c
    cases callee with
    | builtin b =>
      cases b <;> first | (cases h; done) | skip
      unfold coreG
      simp only [pureOp]
      split
      · rename_i hp; cases hp
      · rfl
    | value f => cases h
    | invoke x n => cases h
  | _ => cases h
theorem stepOp_core {all : List Oper} {base i : Nat} {o : Oper} {s : St} : stepOp A T G all base i o s = fin o s (coreF A T G all base i o s.tmps s.mem) := by
  unfold stepOp coreF core
  cases hg : o.guard with
  | none => rfl
  | some x =>
    obtain ⟨j, want⟩ := x
    simp only
    cases hd : dstOf all j with
    | none => rfl
    | some d =>
      simp only
      cases ha : isAp o.op
      · unfold frzD; rw [ha]; exact congrArg (fin o s) (frzU_false _).symm
      · rw [apG ha]; rfl

theorem core_put0 {all : List Oper} {base i : Nat} {o : Oper} {tmps : List SV} {m : Mem} {d : Option Nat} {x : SV} (h : ∀ k, d = some k → k ∉ o.looksAt all.toArray) :
    core A T G all base i o (put tmps d x) m = core A T G all base i o tmps m := by
  have hev : ∀ y ∈ o.op.operands.toList, ev T.gl (put tmps d x) y = ev T.gl tmps y := fun y hy => ev_put fun k hk e => h k hk (by
    subst e
    exact List.mem_append_left _ (List.mem_filterMap.2 ⟨.tmp k, hy, rfl⟩))
  unfold core
  split
  · rename_i j want hg
    split
    · rename_i dd hd
      have hgd : getAt (put tmps d x) dd = getAt tmps dd := getAt_put fun k hk e => h k hk (by
        subst e
        refine List.mem_append_right _ ?_
        rw [hg]
        simp only [dstOf_spec hd]
        simp)
      rw [hgd]
      exact coreG_congr hev
    · rfl
  · exact coreU_congr hev

/-- One that writes no memory. -/
theorem core_mem0 {all : List Oper} {base i : Nat} {o : Oper} {tmps : List SV} {m m' m1 : Mem} {p : Option Prop} {r : SV} (ht : touch o.op ≠ .writes)
    (h : touch o.op = .none ∨ ∀ x ∈ o.op.operands.toList, ∀ k, ment k (ev T.gl tmps x) → look m k = look m' k) (hc : core A T G all base i o tmps m = some (p, r, m1)) :
    (m1 = m ∧ core A T G all base i o tmps m' = some (p, r, m')) ∨ (touch o.op ≠ .none ∧ ∃ b, m1 = ins m (base + i) b ∧ core A T G all base i o tmps m' = some (p, r, ins m' (base + i) b)) := by
  unfold core at hc ⊢
  split at hc
  · rename_i j want hg
    split at hc
    · rename_i d hd
      refine .inl (coreG_mem ?_ hc)
      rcases h with h | h
      · exact .inl h
      · refine .inr fun x hx k hk => h x hx k ?_
        unfold bareE at hk
        cases he : ev T.gl tmps x with
        | opt c t => rw [he] at hk; exact ment3_of2 hk
        | _ => rw [he] at hk; exact ment_of2 hk
    · cases hc
  · refine coreU_mem ht ?_ hc
    rcases h with h | h
    · exact .inl h
    · exact .inr fun x hx k hk => h x hx k (ment_of2 hk)
end

section
variable {P : Program} {c : Ctx} {T : Tys} {G : Pu} {X : Xt}
theorem Rel.ment1_in {w : World} {ρ : Nat → Value} {rw U : Nat → Prop} {v : Value} {s : SV} {k : Nat} (h : Rel w ρ rw U v s) (hk : ment1 k s) : U k := by
  cases h <;> first | (exact (by assumption : ∀ k, (∃ s, s ∈ _ ∧ ment0 k s) → U k) k hk) | cases hk | skip
  all_goals first | assumption | (subst_vars; assumption)
theorem mentL_in {w : World} {ρ : Nat → Value} {rw U : Nat → Prop} {cs : Array Value} {l : List SV} {t : SV} {k : Nat} (hl : cs.size = (flatC l).length) (h : ∀ (i : Nat) v s, cs[i]? = some v → (flatC l)[i]? = some s → Rel w ρ rw U v s) (hm : RunsIn U l) (ht : t ∈ l) (hk : ment1 k t) : U k := by
  have cell : ∀ u, u ∈ flatC l → ment1 k u → U k := fun u hu hku => by
    obtain ⟨i, hi⟩ := List.mem_iff_getElem?.1 hu
    have hlt : i < cs.size := by rw [hl]; exact (List.getElem?_eq_some_iff.1 hi).1
    exact (h i _ u (Array.getElem?_eq_getElem hlt) hi).ment1_in hku
  cases hr : isRun t
  · exact cell t (mem_flatC ht hr) hk
  · exact hm t ht hr k (by cases t <;> first | (cases hr; done) | exact hk)
theorem Rel.ment2_in {w : World} {ρ : Nat → Value} {rw U : Nat → Prop} {v : Value} {s : SV} {k : Nat} (h : Rel w ρ rw U v s) (hk : ment2 k s) : U k := by
  cases s with
  | agg l =>
    obtain ⟨t, ht, hk⟩ := hk
    generalize hs : SV.agg l = s at h
    cases h with
    | agg cs l' hl h1 h hm =>
      cases hs
      exact mentL_in hl h hm ht hk
    | _ => cases hs
  | _ => exact h.ment1_in hk
theorem Rel.ment3_in {w : World} {ρ : Nat → Value} {rw U : Nat → Prop} {v : Value} {s : SV} {k : Nat} (h : Rel w ρ rw U v s) (hk : ment3 k s) : U k := by
  cases s with
  | tup l =>
    obtain ⟨t, ht, hk⟩ := hk
    generalize hs : SV.tup l = s at h
    cases h with
    | tup cs l' hl h =>
      cases hs
      obtain ⟨i, hi⟩ := List.mem_iff_getElem?.1 ht
      have hlt : i < cs.size := by rw [hl]; exact (List.getElem?_eq_some_iff.1 hi).1
      exact (h i _ t (Array.getElem?_eq_getElem hlt) hi).ment2_in hk
    | _ => cases hs
  | _ => exact h.ment2_in hk
theorem Rel.ment_in {w : World} {ρ : Nat → Value} {rw U : Nat → Prop} {v : Value} {s : SV} {k : Nat} (h : Rel w ρ rw U v s) (hk : ment k s) : U k := by
  cases s with
  | opt cc t =>
    generalize hs : SV.opt cc t = s at h
    cases h with
    | opt c v t' _ _ hm => cases hs; exact hm k hk
    | _ => cases hs
  | _ => exact h.ment3_in hk

theorem nodup_of_apart {ρ : Nat → Value} : ∀ {m : Mem}, m.Pairwise (Apart ρ) → m.Pairwise fun e e' => e.1 ≠ e'.1 := fun h => h.imp fun h => h.1
theorem look_del_same {q : Nat} : ∀ {m : Mem}, m.Pairwise (fun e e' => e.1 ≠ e'.1) → look (del m q) q = none
  | [], _ => rfl
  | (k, c) :: m, h => by
    obtain ⟨h1, h2⟩ := List.pairwise_cons.1 h
    simp only [del]
    cases hb : Nat.beq k q <;> simp only [cond_true, cond_false]
    · simp only [look, hb, cond_false]
      exact look_del_same h2
    · obtain rfl := Nat.eq_of_beq_eq_true hb
      cases hl : look m k with
      | none => rfl
      | some b => exact absurd rfl (h1 (k, b) (look_mem hl))
theorem look_del_other {q k : Nat} (hk : k ≠ q) : ∀ (m : Mem), look (del m q) k = look m k
  | [] => rfl
  | (j, c) :: m => by
    simp only [del]
    cases hb : Nat.beq j q <;> simp only [cond_true, cond_false, look]
    · rw [look_del_other hk m]
    · obtain rfl := Nat.eq_of_beq_eq_true hb
      cases hb2 : Nat.beq j k
      · rfl
      · exact absurd (Nat.eq_of_beq_eq_true hb2).symm hk
/-- What a load reads of memory is the block that it names. -/
theorem pure_load {e : Operand → SV} {t : TypeId} {x : Operand} {m m' : Mem} {pr : Option Prop × SV} (h : pureOp std T G (.load t x) e m = some pr) (hm : ∀ k b, ment0 k (e x) → look m k = some b → look m' k = some b) : pureOp std T G (.load t x) e m' = some pr := by
  simp only [pureOp] at h ⊢
  split at h
  · rename_i k off ty hx hty
    rw [hx] at hm
    split at h
    · rename_i u c hl
      rw [hm k _ rfl hl]
      exact h
    · cases h
  · rename_i k base n i ty hx hty
    rw [hx] at hm
    split at h
    · rename_i u c hl
      rw [hm k _ rfl hl]
      exact h
    · cases h
  · rename_i k f ty hx hty
    exact h
  · rename_i q k i off ty hx hty
    rw [hx] at hm
    split at h
    · rename_i hl
      rw [hm q _ rfl hl]
      exact h
    · rename_i hl
      rw [hm q _ rfl hl]
      exact h
    · cases h
  · cases h
theorem load_core0 {all : List Oper} {base i : Nat} {o : Oper} {tmps : List SV} {m m1 : Mem} {p : Option Prop} {r : SV} (hL : isLd o.op = true) (hc : core std T G all base i o tmps m = some (p, r, m1)) :
    m1 = m ∧ ∀ m', (∀ k b, (∃ x ∈ o.op.operands.toList, ment k (ev T.gl tmps x)) → look m k = some b → look m' k = some b) → core std T G all base i o tmps m' = some (p, r, m') := by
  cases ho : o.op with
  | load t x =>
    unfold core at hc ⊢
    split at hc
    · rename_i j want hg
      split at hc
      · rename_i d hd
        simp only [ho, coreG] at hc ⊢
        split at hc
        · rename_i cc b pp rr ht hpure
          split at hc
          · cases hc
          · cases hc
          · rename_i hcl hkb
            simp only [Option.some.injEq, Prod.mk.injEq] at hc
            obtain ⟨rfl, rfl, rfl⟩ := hc
            refine ⟨rfl, fun m' hm => ?_⟩
            have := pure_load (m' := m') hpure fun k b hk hb => hm k b ⟨x, by simp [Op.operands], by
              have hk : ment0 k (bare (ev T.gl tmps x)) := hk
              cases hs : ev T.gl tmps x with
              | opt c t => rw [hs] at hk; exact ment3_of2 (ment2_of1 (ment1_of0 hk))
              | _ => rw [hs] at hk; exact ment_of2 (ment2_of1 (ment1_of0 hk))⟩ hb
            rw [ht, this]
            simp only
            rw [hcl, hkb]
        · cases hc
      · cases hc
    · simp only [ho, coreU] at hc ⊢
      split at hc
      · rename_i p' r' hpure
        simp only [Option.some.injEq, Prod.mk.injEq] at hc
        obtain ⟨rfl, rfl, rfl⟩ := hc
        refine ⟨rfl, fun m' hm => ?_⟩
        rw [pure_load (m' := m') hpure fun k b hk hb => hm k b ⟨x, by simp [Op.operands], ment_of2 (ment2_of1 (ment1_of0 hk))⟩ hb]
      · cases hc
  | _ => rw [ho] at hL; cases hL
theorem pure_slice {e : Operand → SV} {t : TypeId} {x : Operand} {lo hi mx : Option Operand} {m m' : Mem} {pr : Option Prop × SV} (h : pureOp std T G (.slice t x lo hi mx) e m = some pr) (hm : ∀ k b, ment0 k (e x) → look m k = some b → look m' k = some b) : pureOp std T G (.slice t x lo hi mx) e m' = some pr := by
  cases hs : e x with
  | own q =>
    rw [hs] at hm
    simp only [pureOp, hs] at h ⊢
    cases hl : look m q with
    | none =>
      rw [hl] at h
      split at h
      · split at h <;> cases h
      · cases h
    | some b =>
      rw [hl] at h
      rw [hm q b rfl hl]
      exact h
  | part q k o n =>
    rw [hs] at hm
    simp only [pureOp, hs] at h ⊢
    cases hl : look m q with
    | none =>
      rw [hl] at h
      split at h
      · split at h <;> cases h
      · cases h
    | some b =>
      rw [hl] at h
      rw [hm q b rfl hl]
      exact h
  | _ =>
    simp only [pureOp, hs] at h ⊢
    exact h
theorem slice_core0 {all : List Oper} {base i : Nat} {o : Oper} {tmps : List SV} {m m1 : Mem} {p : Option Prop} {r : SV} (hL : isSl o.op = true) (hc : core std T G all base i o tmps m = some (p, r, m1)) :
    m1 = m ∧ ∀ m', (∀ t x lo hi mx, o.op = .slice t x lo hi mx → ∀ k b, ment k (ev T.gl tmps x) → look m k = some b → look m' k = some b) → core std T G all base i o tmps m' = some (p, r, m') := by
  cases ho : o.op with
  | slice t x lo hi mx =>
    have hmem : x ∈ (Op.slice t x lo hi mx).operands.toList := by simp [Op.operands]
    unfold core at hc ⊢
    split at hc
    · rename_i j want hg
      split at hc
      · rename_i d hd
        simp only [ho, coreG] at hc ⊢
        split at hc
        · rename_i cc b pp rr ht hpure
          split at hc
          · cases hc
          · cases hc
          · rename_i hcl hkb
            simp only [Option.some.injEq, Prod.mk.injEq] at hc
            obtain ⟨rfl, rfl, rfl⟩ := hc
            refine ⟨rfl, fun m' hm => ?_⟩
            have := pure_slice (m' := m') hpure fun k b hk hb => hm t x lo hi mx rfl k b (by
              have hk : ment0 k (bare (ev T.gl tmps x)) := hk
              cases hs : ev T.gl tmps x with
              | opt c t => rw [hs] at hk; exact ment3_of2 (ment2_of1 (ment1_of0 hk))
              | _ => rw [hs] at hk; exact ment_of2 (ment2_of1 (ment1_of0 hk))) hb
            rw [ht, this]
            simp only
            rw [hcl, hkb]
        · cases hc
      · cases hc
    · simp only [ho, coreU] at hc ⊢
      split at hc
      · rename_i p' r' hpure
        simp only [Option.some.injEq, Prod.mk.injEq] at hc
        obtain ⟨rfl, rfl, rfl⟩ := hc
        refine ⟨rfl, fun m' hm => ?_⟩
        rw [pure_slice (m' := m') hpure fun k b hk hb => hm t x lo hi mx rfl k b (ment_of2 (ment2_of1 (ment1_of0 hk))) hb]
      · cases hc
  | _ => rw [ho] at hL; cases hL
/-- A load that looks into no row names a variable. -/
theorem load_box0 {all : List Oper} {base i : Nat} {o : Oper} {tmps : List SV} {m m1 : Mem} {p : Option Prop} {r : SV} (hL : isLd o.op = true) (hh : hot (ev T.gl tmps) o.op = false) (hc : core std T G all base i o tmps m = some (p, r, m1))
    {x : Operand} {k : Nat} {b : Blk} (hx : x ∈ o.op.operands.toList) (hk : ment k (ev T.gl tmps x)) (hb : look m k = some b) : ∃ t c, b = .box t c := by
  cases ho : o.op with
  | load t y =>
    rw [ho] at hx hh
    have : x = y := by simpa [Op.operands] using hx
    subst this
    have main : ∀ (e : Operand → SV) pr, e x = ev T.gl tmps x ∨ e x = bare (ev T.gl tmps x) → pureOp std T G (.load t x) e m = some pr → ∃ t c, b = .box t c := by
      intro e pr he h
      simp only [pureOp] at h
      simp only [hot] at hh
      split at h
      · rename_i q off ty hq hty
        split at h
        · rename_i u c hl
          have : k = q := by
            rcases he with he | he
            · rw [← he, hq] at hk; exact hk.symm
            · rw [hq] at he
              cases hs : ev T.gl tmps x with
              | opt c s => rw [hs] at he hk; simp only [bare] at he; subst he; exact hk.symm
              | _ => rw [hs] at he hk; simp only [bare] at he; first | (cases he; exact hk.symm) | cases he
          subst this
          rw [hl] at hb
          cases hb
          exact ⟨_, _, rfl⟩
        · cases h
      · rename_i q b2 n2 i2 ty hq hty
        exfalso
        have : bare (ev T.gl tmps x) = .iptr q b2 n2 i2 := by
          rcases he with he | he
          · rw [← he, hq]; rfl
          · rw [← he, hq]
        rw [this] at hh
        cases hh
      · rename_i q f ty hq hty
        exfalso
        rcases he with he | he
        · rw [← he, hq] at hk; exact hk
        · rw [hq] at he
          cases hs : ev T.gl tmps x with
          | opt c s => rw [hs] at he hk; simp only [bare] at he; subst he; exact hk
          | _ => rw [hs] at he hk; simp only [bare] at he; first | (cases he; exact hk) | cases he
      · rename_i q k2 i2 off ty hq hty
        exfalso
        have : bare (ev T.gl tmps x) = .eptr q k2 i2 off := by
          rcases he with he | he
          · rw [← he, hq]; rfl
          · rw [← he, hq]
        rw [this] at hh
        cases hh
      · cases h
    unfold core at hc
    split at hc
    · split at hc
      · simp only [ho, coreG] at hc
        split at hc
        · rename_i hpure
          exact main _ _ (.inr rfl) hpure
        · cases hc
      · cases hc
    · simp only [ho, coreU] at hc
      split at hc
      · rename_i hpure
        exact main _ _ (.inl rfl) hpure
      · cases hc
  | _ => rw [ho] at hL; cases hL

theorem ment_bare2 {k : Nat} {s t : SV} (hk : ment k s) (he : t = s ∨ t = bare s) (hno : ∀ c u, t ≠ .opt c u) : ment k t := by
  rcases he with rfl | rfl
  · exact hk
  · cases s with
    | opt c u => cases u <;> first | exact hk | exact absurd rfl (hno _ _)
    | _ => exact hk
/-- Rows of which one may be elsewhere. -/
def Holed (b : Blk) : Prop := (∃ e K j, b = .krow e K ∧ K.hl = some j) ∨ ∃ K, b = .kids K
/-- What looks into a row of rows finds all of them in their cells. -/
theorem load_hole0 {all : List Oper} {base i : Nat} {o : Oper} {tmps : List SV} {m m1 : Mem} {p : Option Prop} {r : SV} (hL : isLd o.op = true) (hc : core std T G all base i o tmps m = some (p, r, m1))
    {x : Operand} {k : Nat} {b : Blk} (hx : x ∈ o.op.operands.toList) (hk : ment k (ev T.gl tmps x)) (hb : look m k = some b) (hh : Holed b) : False := by
  cases ho : o.op with
  | load t y =>
    rw [ho] at hx
    have : x = y := by simpa [Op.operands] using hx
    subst this
    have main : ∀ (e : Operand → SV) pr, e x = ev T.gl tmps x ∨ e x = bare (ev T.gl tmps x) → pureOp std T G (.load t x) e m = some pr → False := by
      intro e pr he h
      simp only [pureOp] at h
      split at h
      · rename_i q off ty hq hty
        have hk2 := ment_bare2 hk he (by rw [hq]; intro c u h; cases h)
        rw [hq] at hk2
        obtain rfl : q = k := hk2
        rw [hb] at h
        rcases hh with ⟨e, K, j, rfl, _⟩ | ⟨K, rfl⟩ <;> cases h
      · rename_i q b2 n2 i2 ty hq hty
        have hk2 := ment_bare2 hk he (by rw [hq]; intro c u h; cases h)
        rw [hq] at hk2
        obtain rfl : q = k := hk2
        rw [hb] at h
        rcases hh with ⟨e, K, j, rfl, _⟩ | ⟨K, rfl⟩ <;> cases h
      · rename_i q f ty hq hty
        have hk2 := ment_bare2 hk he (by rw [hq]; intro c u h; cases h)
        rw [hq] at hk2
        exact hk2
      · rename_i q k2 i2 off ty hq hty
        have hk2 := ment_bare2 hk he (by rw [hq]; intro c u h; cases h)
        rw [hq] at hk2
        obtain rfl : q = k := hk2
        rw [hb] at h
        rcases hh with ⟨e, K, j, rfl, hh⟩ | ⟨K, rfl⟩
        rotate_left
        · cases h
        simp only [hh] at h
        revert h
        generalize (Nat.beq k2 1 && (Nat.beq off 0 && (Nat.beq ty.size 1 && !ty.agg))) = bb
        cases bb <;> simp
      · cases h
    unfold core at hc
    split at hc
    · split at hc
      · simp only [ho, coreG] at hc
        split at hc
        · rename_i hpure
          exact main _ _ (.inr rfl) hpure
        · cases hc
      · cases hc
    · simp only [ho, coreU] at hc
      split at hc
      · rename_i hpure
        exact main _ _ (.inl rfl) hpure
      · cases hc
  | _ => rw [ho] at hL; cases hL
theorem slice_hole0 {all : List Oper} {base i : Nat} {o : Oper} {tmps : List SV} {m m1 : Mem} {p : Option Prop} {r : SV} (hL : isSl o.op = true) (hc : core std T G all base i o tmps m = some (p, r, m1))
    {k : Nat} {b : Blk} (hb : look m k = some b) (hh : Holed b) : ∀ x, (∃ t lo hi mx, o.op = .slice t x lo hi mx) → ¬ ment k (ev T.gl tmps x) := by
  intro x ⟨t, lo, hi, mx, ho⟩ hk
  have main : ∀ (e : Operand → SV) pr, e x = ev T.gl tmps x ∨ e x = bare (ev T.gl tmps x) → pureOp std T G (.slice t x lo hi mx) e m = some pr → False := by
    intro e pr he h
    cases hs : e x with
    | own q =>
      have hk2 := ment_bare2 hk he (by rw [hs]; intro c u h; cases h)
      rw [hs] at hk2
      obtain rfl : q = k := hk2
      rcases hh with ⟨e, K, j, rfl, hh⟩ | ⟨K, rfl⟩ <;> simp only [pureOp, hs, hb] at h <;> (repeat' split at h) <;> cases h
    | part q a b c =>
      have hk2 := ment_bare2 hk he (by rw [hs]; intro c u h; cases h)
      rw [hs] at hk2
      obtain rfl : q = k := hk2
      rcases hh with ⟨e, K, j, rfl, hh⟩ | ⟨K, rfl⟩ <;> simp only [pureOp, hs, hb] at h <;> (repeat' split at h) <;> cases h
    | slc | nils | emp | str =>
      have hk2 := ment_bare2 hk he (by rw [hs]; intro c u h; cases h)
      rw [hs] at hk2
      exact hk2
    | _ =>
      simp only [pureOp, hs] at h
      (repeat' split at h) <;> cases h
  unfold core at hc
  split at hc
  · split at hc
    · simp only [ho, coreG] at hc
      split at hc
      · rename_i hpure
        exact main _ _ (.inr rfl) hpure
      · cases hc
    · cases hc
  · simp only [ho, coreU] at hc
    split at hc
    · rename_i hpure
      exact main _ _ (.inl rfl) hpure
    · cases hc

/-- What is put behind a row alters no variable, and no row but its own. -/
theorem append_forms {all : List Oper} {base i : Nat} {o : Oper} {tmps : List SV} {m m1 : Mem} {p : Option Prop} {r : SV} (hA : isAp o.op = true) (hc : core std T G all base i o tmps m = some (p, r, m1)) :
    (∃ b, m1 = ins m (base + i) b) ∨ (∃ q b e k n f, m1 = ins (del m q) (base + i) b ∧ look m q = some (.row e k n f)) ∨ (hot (ev T.gl tmps) o.op = true ∧ ∃ q b e k n f, m1 = upd m q b ∧ look m q = some (.row e k n f)) ∨
      ∃ q b b0 b1, m1 = ins (upd m q b1) (base + i) b ∧ (look m q = some b0 ∧ ((∀ t c, b0 ≠ .box t c) ∧ Holed b1)) := by
  cases ho : o.op with
  | call c =>
    obtain ⟨callee, args, ts⟩ := c
    cases callee with
    | builtin b =>
      cases b <;> first | (rw [ho] at hA; cases hA; done) | skip
      unfold core at hc
      split at hc
      · split at hc
        · simp only [ho, coreG, pureOp] at hc
          split at hc
          · rename_i hpure; cases hpure
          · cases hc
        · cases hc
      · simp only [ho, coreU] at hc
        split at hc
        · rename_i x y t u hargs hts
          split at hc
          · split at hc
            · split at hc
              · rename_i te hx hte
                cases hb : (closedL te.zero && Nat.beq (len te.zero) _) <;> rw [hb] at hc <;> simp only [cond_true, cond_false, reduceCtorEq, Option.some.injEq, Prod.mk.injEq] at hc
                obtain ⟨_, _, rfl⟩ := hc
                exact .inl ⟨_, rfl⟩
              · cases hc
            · cases hc
          · split at hc
            · rename_i el k by_ isb htag
              rename_i kk _ _ _ _ _ _
              revert hc
              generalize Nat.beq k _ = bb
              intro hc
              cases bb <;> simp only [cond_true, cond_false, reduceCtorEq] at hc
              split at hc
              · simp only [Option.some.injEq, Prod.mk.injEq] at hc
                obtain ⟨_, _, rfl⟩ := hc
                exact .inl ⟨_, rfl⟩
              · simp only [Option.some.injEq, Prod.mk.injEq] at hc
                obtain ⟨_, _, rfl⟩ := hc
                exact .inl ⟨_, rfl⟩
              · rename_i q hx
                split at hc
                · rename_i e' k' n f hl
                  revert hc
                  generalize (Nat.beq el e' && Nat.beq k k') = bb
                  intro hc
                  cases bb <;> simp only [cond_true, cond_false, reduceCtorEq, Option.some.injEq, Prod.mk.injEq] at hc
                  obtain ⟨_, _, rfl⟩ := hc
                  exact .inr (.inl ⟨q, _, _, _, _, _, rfl, hl⟩)
                · cases hc
              · rename_i q k2 oo b hx
                split at hc
                · rename_i e' k' n f hl
                  revert hc
                  generalize ((Nat.beq el e' && Nat.beq k k') && (Nat.beq k k2 && Nat.beq oo 0)) = bb
                  intro hc
                  cases bb <;> simp only [cond_true, cond_false, reduceCtorEq, Option.some.injEq, Prod.mk.injEq] at hc
                  obtain ⟨_, _, rfl⟩ := hc
                  exact .inr (.inr (.inl ⟨by simp only [hot, hargs, hx], q, _, _, _, _, _, rfl, hl⟩))
                · cases hc
              · rename_i q jf ix hx
                split at hc
                · rename_i e0 K0 hl
                  split at hc
                  · simp only [Option.some.injEq, Prod.mk.injEq] at hc
                    obtain ⟨_, _, rfl⟩ := hc
                    exact .inr (.inr (.inr ⟨q, _, _, _, rfl, hl, fun t c e => (by cases e), .inl ⟨_, _, ix, rfl, rfl⟩⟩))
                  · cases hc
                · cases hc
              · rename_i q jf cn ix hx
                split at hc
                · rename_i K0 hl
                  split at hc
                  · simp only [Option.some.injEq, Prod.mk.injEq] at hc
                    obtain ⟨_, _, rfl⟩ := hc
                    exact .inr (.inr (.inr ⟨q, _, _, _, rfl, hl, fun t c e => (by cases e), .inr ⟨_, rfl⟩⟩))
                  · cases hc
                · cases hc
              · cases hc
            · cases hc
          · cases hc
        · cases hc
    | value f => rw [ho] at hA; cases hA
    | invoke x n => rw [ho] at hA; cases hA
  | _ => rw [ho] at hA; cases hA
theorem append_back0 {all : List Oper} {base i : Nat} {o : Oper} {tmps : List SV} {m m1 : Mem} {p : Option Prop} {r : SV} (hA : isAp o.op = true) (hh : hot (ev T.gl tmps) o.op = false) (hc : core std T G all base i o tmps m = some (p, r, m1)) (hnd : m.Pairwise fun e e' => e.1 ≠ e'.1)
    {k : Nat} {b : Blk} (hk : k ≠ base + i) (hb : look m1 k = some b) : look m k = some b ∨ Holed b := by
  rcases append_forms hA hc with ⟨c, rfl⟩ | ⟨q, c, _, _, _, _, rfl, hl⟩ | ⟨h, _⟩ | ⟨q, c, b0, b1, rfl, hl, hnb, hh1⟩
  · rw [look_ins hk] at hb; exact .inl hb
  · rw [look_ins hk] at hb
    by_cases hq : k = q
    · subst hq; rw [look_del_same hnd] at hb; cases hb
    · rw [look_del_other hq] at hb; exact .inl hb
  · rw [hh] at h; cases h
  · rw [look_ins hk] at hb
    by_cases hq : k = q
    · subst hq
      have e0 : ∀ {m : Mem}, look m k = some b0 → look (upd m k b1) k = some b1 := by
        intro m
        induction m with
        | nil => intro h; cases h
        | cons y m ih =>
          intro h
          simp only [look] at h
          simp only [upd]
          cases hy : Nat.beq y.1 k <;> simp only [hy, cond_true, cond_false, look] at h ⊢
          exact ih h
      rw [e0 hl] at hb
      cases hb
      exact .inr hh1
    · rw [look_upd_other hq] at hb; exact .inl hb
theorem append_box0 {all : List Oper} {base i : Nat} {o : Oper} {tmps : List SV} {m m1 : Mem} {p : Option Prop} {r : SV} (hA : isAp o.op = true) (hc : core std T G all base i o tmps m = some (p, r, m1))
    {k : Nat} {b : Blk} (hk : k ≠ base + i) (hb : look m k = some b) (hbox : ∃ t c, b = .box t c) : look m1 k = some b := by
  obtain ⟨t, c, rfl⟩ := hbox
  rcases append_forms hA hc with ⟨c, rfl⟩ | ⟨q, c, _, _, _, _, rfl, hl⟩ | ⟨_, q, c, _, _, _, _, rfl, hl⟩ | ⟨q, c, b0, b1, rfl, hl, hnb, _⟩
  · rwa [look_ins hk]
  · rw [look_ins hk, look_del_other (fun e => by subst e; rw [hl] at hb; cases hb)]; exact hb
  · rw [look_upd_other (fun e => by subst e; rw [hl] at hb; cases hb)]; exact hb
  · rw [look_ins hk, look_upd_other (fun e => by subst e; rw [hl] at hb; exact hnb _ _ (Option.some.inj hb))]; exact hb
theorem nam0_spec {k : Nat} {s : SV} (h : ment0 k s) : nam0 k s = true := by
  cases s <;> simp only [ment0, nam0] at h ⊢ <;> first | (subst h; exact Nat.beq_refl _) | skip
  all_goals (rcases h with rfl | rfl <;> simp [Nat.beq_refl])
theorem nam1_spec {k : Nat} {s : SV} (h : ment1 k s) : nam1 k s = true := by
  cases s with
  | clo f l => obtain ⟨t, ht, hk⟩ := h; exact List.any_eq_true.2 ⟨t, ht, nam0_spec hk⟩
  | _ => simp only [ment1, nam1] at h ⊢; exact nam0_spec h
theorem nam2_spec {k : Nat} {s : SV} (h : ment2 k s) : nam2 k s = true := by
  cases s with
  | agg l => obtain ⟨t, ht, hk⟩ := h; exact List.any_eq_true.2 ⟨t, ht, nam1_spec hk⟩
  | _ => simp only [ment2, nam2] at h ⊢; exact nam1_spec h
theorem nam3_spec {k : Nat} {s : SV} (h : ment3 k s) : nam3 k s = true := by
  cases s with
  | tup l => obtain ⟨t, ht, hk⟩ := h; exact List.any_eq_true.2 ⟨t, ht, nam2_spec hk⟩
  | _ => simp only [ment3, nam3] at h ⊢; exact nam2_spec h
theorem nam_spec {k : Nat} {s : SV} (h : ment k s) : nam k s = true := by
  cases s with
  | opt c t => simp only [ment, nam] at h ⊢; exact nam3_spec h
  | _ => simp only [ment, nam] at h ⊢; exact nam3_spec h
theorem adr_pt {e : Operand → SV} {ops : List Operand} {all : List Oper} {f t : Nat} (h : adr e ops all f t = true) : ptrOk e ops t = true := by
  cases f with
  | zero => simp only [adr, Bool.and_eq_true] at h; exact h.2
  | succ f => simp only [adr, Bool.and_eq_true] at h; exact h.2
theorem stOk_spec {e : Operand → SV} {all : List Oper} {op : Op} {o : Oper} (h : stOk e all op o = true) {y : Operand} (hy : ∃ t x, o.op = .store t y x) {k : Nat} (hk : ment k (e y)) : ∀ x ∈ op.operands.toList, ¬ ment k (e x) := by
  obtain ⟨t, z, ho⟩ := hy
  unfold stOk at h
  rw [ho] at h
  cases y with
  | tmp q =>
    replace h := adr_pt h
    unfold ptrOk at h
    split at h
    · rename_i k' off he
      intro x hx hm
      rw [he] at hk
      have hk : k' = k := hk
      subst hk
      have := List.all_eq_true.1 h x hx
      rw [nam_spec hm] at this
      cases this
    · rename_i he; intro x hx hm; rw [he] at hk; cases hk
    · rename_i he; intro x hx hm; rw [he] at hk; cases hk
    · cases h
  | _ => cases h
theorem stOk_cold {e : Operand → SV} {all : List Oper} {op : Op} {o : Oper} (h : stOk e all op o = true) (hS : isSt o.op = true) : hot e o.op = false := by
  cases ho : o.op with
  | store t y x =>
    unfold stOk at h
    rw [ho] at h
    cases y with
    | tmp q =>
      replace h := adr_pt h
      unfold ptrOk at h
      simp only [hot]
      split at h
      · rename_i he; rw [he]
      · rename_i he; rw [he]
      · rename_i he; rw [he]
      · cases h
    | _ => cases h
  | _ => rw [ho] at hS; cases hS
theorem upd_ins {k q : Nat} {a b : Blk} (h : k ≠ q) : ∀ m : Mem, upd (ins m k a) q b = ins (upd m q b) k a
  | [] => by
    simp only [ins, upd]
    cases hb : Nat.beq k q
    · rfl
    · exact absurd (Nat.eq_of_beq_eq_true hb) h
  | (j, c) :: m => by
    simp only [ins, upd]
    cases h1 : Nat.ble j k <;> cases h2 : Nat.beq j q <;> simp only [cond_true, cond_false, upd, h2, ins, h1]
    · rw [upd_ins h m]
    · cases hb : Nat.beq k q
      · simp [cond_false, h2]
      · exact absurd (Nat.eq_of_beq_eq_true hb) h
    · cases hb : Nat.beq k q
      · simp [cond_false, h2]
      · exact absurd (Nat.eq_of_beq_eq_true hb) h
theorem del_ins {k q : Nat} {a : Blk} (h : k ≠ q) : ∀ {m : Mem}, m.Pairwise (fun e e' => e'.1 < e.1) → del (ins m k a) q = ins (del m q) k a
  | [], _ => by
    simp only [ins, del]
    cases hb : Nat.beq k q
    · rfl
    · exact absurd (Nat.eq_of_beq_eq_true hb) h
  | (j, c) :: m, hp => by
    have hp' := List.pairwise_cons.1 hp
    have hkq : Nat.beq k q = false := by
      cases hb : Nat.beq k q
      · rfl
      · exact absurd (Nat.eq_of_beq_eq_true hb) h
    simp only [ins, del]
    cases h1 : Nat.ble j k <;> cases h2 : Nat.beq j q <;> simp only [cond_true, cond_false, del, h2, ins, h1, hkq]
    · rw [del_ins h hp'.2]
    · obtain rfl : j = q := Nat.eq_of_beq_eq_true h2
      have hjk := Nat.le_of_ble_eq_true h1
      cases m with
      | nil => rfl
      | cons e m =>
        have h3 := hp'.1 e (List.mem_cons_self ..)
        obtain ⟨e1, e2⟩ := e
        simp only at h3
        have h4 : Nat.ble e1 k = true := Nat.ble_eq_true_of_le (by omega)
        simp only [ins, h4, cond_true]
theorem look_ins_same {b : Blk} {k : Nat} : ∀ m : Mem, look (ins m k b) k = some b
  | [] => by simp [ins, look]
  | (j, c) :: m => by
    simp only [ins]
    cases h : Nat.ble j k <;> simp only [cond_true, cond_false, look]
    · have hj : Nat.beq j k = false := by
        cases hb : Nat.beq j k
        · rfl
        · have := Nat.eq_of_beq_eq_true hb; subst this; rw [Nat.ble_eq_true_of_le (Nat.le_refl _)] at h; cases h
      rw [hj]
      exact look_ins_same m
    · rw [Nat.beq_refl]; rfl
/-- What is put behind a row looks at what its operands name alone. -/
theorem append_gen0 {all : List Oper} {base i : Nat} {o : Oper} {tmps : List SV} {m m1 : Mem} {p : Option Prop} {r : SV} (hA : isAp o.op = true) (hc : core std T G all base i o tmps m = some (p, r, m1)) :
    ∃ F : Mem → Mem, m1 = F m ∧ (∀ m', (∀ k, (∃ x ∈ o.op.operands.toList, ment k (ev T.gl tmps x)) → look m' k = look m k) → core std T G all base i o tmps m' = some (p, r, F m')) ∧
      (∀ k a m', m'.Pairwise (fun e e' => e'.1 < e.1) → k ≠ base + i → (¬ ∃ x ∈ o.op.operands.toList, ment k (ev T.gl tmps x)) → F (ins m' k a) = ins (F m') k a) ∧
      (r = .own (base + i) → (∃ bl, ∀ m', look (F m') (base + i) = some bl) ∧ ∀ m', m'.Pairwise (fun e e' => e'.1 < e.1) → (∀ e ∈ m', e.1 ≠ base + i) → (F m').Pairwise fun e e' => e'.1 < e.1) := by
  cases ho : o.op with
  | call c =>
    obtain ⟨callee, args, ts⟩ := c
    cases callee with
    | builtin b =>
      cases b <;> first | (rw [ho] at hA; cases hA; done) | skip
      unfold core at hc ⊢
      split at hc
      · split at hc
        · simp only [ho, coreG, pureOp] at hc
          split at hc
          · rename_i hpure; cases hpure
          · cases hc
        · cases hc
      · rename_i hgd
        simp only [ho, coreU] at hc ⊢
        split at hc
        · rename_i x y t u hargs hts
          have hxm : x ∈ (Op.call { callee := Callee.builtin Builtin.append, args := args, argTypes := ts }).operands.toList := mem_args (by rw [hargs]; simp)
          have hym : y ∈ (Op.call { callee := Callee.builtin Builtin.append, args := args, argTypes := ts }).operands.toList := mem_args (by rw [hargs]; simp)
          have hsrcE : ∀ m' : Mem, (∀ k, (∃ x ∈ (Op.call { callee := Callee.builtin Builtin.append, args := args, argTypes := ts }).operands.toList, ment k (ev T.gl tmps x)) → look m' k = look m k) → srcOf std T m' t u (ev T.gl tmps y) = srcOf std T m t u (ev T.gl tmps y) := fun m' hm => by
            unfold srcOf
            rw [deown_mem (m := m') (m' := m) (s := ev T.gl tmps y) fun k hk => hm k ⟨y, hym, ment_of1 hk⟩, plain_mem (m := m') (m' := m) (s := ev T.gl tmps y) fun k hk => hm k ⟨y, hym, ment_of1 hk⟩]
          split at hc
          · rename_i ty z hty hsrc
            split at hc
            · rename_i el k by_ isb htag
              split at hc
              · rename_i te hx hte
                cases hb : (closedL te.zero && Nat.beq (len te.zero) k) <;> rw [hb] at hc <;> simp only [cond_true, cond_false, reduceCtorEq, Option.some.injEq, Prod.mk.injEq] at hc
                obtain ⟨rfl, rfl, rfl⟩ := hc
                refine ⟨fun m' => ins m' (base + i) _, rfl, fun m' hm => ?_, fun k' a m' _ hk _ => ins_comm hk m', fun _ => ⟨⟨_, fun m' => look_ins_same m'⟩, fun m' h1 h2 => sorted_ins h1 h2⟩⟩
                rw [hsrcE m' hm]
                simp only [hargs, hts, hty, hsrc, htag, hx, hte, hb, cond_true]
              · cases hc
            · cases hc
          · rename_i ty n' kk g hty hsrc
            split at hc
            · rename_i el k by_ isb htag
              cases hkk : Nat.beq k kk <;> simp only [hkk, cond_true, cond_false, reduceCtorEq] at hc
              split at hc
              · rename_i hx
                simp only [Option.some.injEq, Prod.mk.injEq] at hc
                obtain ⟨rfl, rfl, rfl⟩ := hc
                refine ⟨fun m' => ins m' (base + i) _, rfl, fun m' hm => ?_, fun k' a m' _ hk _ => ins_comm hk m', fun _ => ⟨⟨_, fun m' => look_ins_same m'⟩, fun m' h1 h2 => sorted_ins h1 h2⟩⟩
                rw [hsrcE m' hm]
                simp only [hargs, hts, hty, hsrc, htag, hx, hkk, cond_true]
              · rename_i hx
                simp only [Option.some.injEq, Prod.mk.injEq] at hc
                obtain ⟨rfl, rfl, rfl⟩ := hc
                refine ⟨fun m' => ins m' (base + i) _, rfl, fun m' hm => ?_, fun k' a m' _ hk _ => ins_comm hk m', fun _ => ⟨⟨_, fun m' => look_ins_same m'⟩, fun m' h1 h2 => sorted_ins h1 h2⟩⟩
                rw [hsrcE m' hm]
                simp only [hargs, hts, hty, hsrc, htag, hx, hkk, cond_true]
              · rename_i q hx
                have hqm : ∃ x ∈ (Op.call { callee := Callee.builtin Builtin.append, args := args, argTypes := ts }).operands.toList, ment q (ev T.gl tmps x) := ⟨x, hxm, by rw [hx]; exact rfl⟩
                split at hc
                · rename_i e' k' n f hl
                  cases hb : (Nat.beq el e' && Nat.beq k k') <;> simp only [hb, cond_true, cond_false, reduceCtorEq, Option.some.injEq, Prod.mk.injEq] at hc
                  obtain ⟨rfl, rfl, rfl⟩ := hc
                  refine ⟨fun m' => ins (del m' q) (base + i) _, rfl, fun m' hm => ?_, fun k2 a m' hs hk hno => ?_, fun _ => ⟨⟨_, fun m' => look_ins_same _⟩, fun m' h1 h2 => sorted_ins (sorted_del h1) fun e he => h2 e (mem_del he)⟩⟩
                  · rw [hsrcE m' hm]
                    simp only [hargs, hts, hty, hsrc, htag, hx, hm q hqm, hl, hkk, hb, cond_true]
                  · have hkq : k2 ≠ q := fun e => hno (e ▸ hqm)
                    simp only
                    rw [del_ins hkq hs, ins_comm hk]
                · cases hc
              · rename_i q k2 oo b hx
                have hqm : ∃ x ∈ (Op.call { callee := Callee.builtin Builtin.append, args := args, argTypes := ts }).operands.toList, ment q (ev T.gl tmps x) := ⟨x, hxm, by rw [hx]; exact rfl⟩
                split at hc
                · rename_i e' k' n f hl
                  cases hb : ((Nat.beq el e' && Nat.beq k k') && (Nat.beq k k2 && Nat.beq oo 0)) <;> simp only [hb, cond_true, cond_false, reduceCtorEq, Option.some.injEq, Prod.mk.injEq] at hc
                  obtain ⟨rfl, rfl, rfl⟩ := hc
                  refine ⟨fun m' => upd m' q _, rfl, fun m' hm => ?_, fun k2 a m' hs hk hno => ?_, fun e => by cases e⟩
                  · rw [hsrcE m' hm]
                    simp only [hargs, hts, hty, hsrc, htag, hx, hm q hqm, hl, hkk, hb, cond_true]
                  · have hkq : k2 ≠ q := fun e => hno (e ▸ hqm)
                    exact upd_ins hkq m'
                · cases hc
              · rename_i q jf ix hx
                have hqm : ∃ x ∈ (Op.call { callee := Callee.builtin Builtin.append, args := args, argTypes := ts }).operands.toList, ment q (ev T.gl tmps x) := ⟨x, hxm, by rw [hx]; exact .inl rfl⟩
                split at hc
                · rename_i e0 K0 hl
                  split at hc
                  · rename_i q1 q2 q3
                    simp only [Option.some.injEq, Prod.mk.injEq] at hc
                    obtain ⟨rfl, rfl, rfl⟩ := hc
                    refine ⟨fun m' => ins (upd m' q _) (base + i) _, rfl, fun m' hm => ?_, fun k2 a m' hs hk hno => ?_, fun _ => ⟨⟨_, fun m' => look_ins_same _⟩, fun m' h1 h2 => sorted_ins (upd_sorted h1) fun e he => ?_⟩⟩
                    · rw [hsrcE m' hm]
                      simp only [hargs, hts, hty, hsrc, htag, hx, hm q hqm, hl, hkk, q1, q2, q3, cond_true]
                    · have hkq : k2 ≠ q := fun e => hno (e ▸ hqm)
                      simp only
                      rw [upd_ins hkq, ins_comm hk]
                    · have hm : e.1 ∈ m'.map (·.1) := by rw [← upd_keys m']; exact List.mem_map.2 ⟨e, he, rfl⟩
                      obtain ⟨x, hx, e'⟩ := List.mem_map.1 hm
                      rw [← e']; exact h2 x hx
                  · cases hc
                · cases hc
              · rename_i q jf cn ix hx
                have hqm : ∃ x ∈ (Op.call { callee := Callee.builtin Builtin.append, args := args, argTypes := ts }).operands.toList, ment q (ev T.gl tmps x) := ⟨x, hxm, by rw [hx]; exact .inl rfl⟩
                split at hc
                · rename_i K0 hl
                  split at hc
                  · rename_i q1 q2 q3
                    simp only [Option.some.injEq, Prod.mk.injEq] at hc
                    obtain ⟨rfl, rfl, rfl⟩ := hc
                    refine ⟨fun m' => ins (upd m' q _) (base + i) _, rfl, fun m' hm => ?_, fun k2 a m' hs hk hno => ?_, fun _ => ⟨⟨_, fun m' => look_ins_same _⟩, fun m' h1 h2 => sorted_ins (upd_sorted h1) fun e he => ?_⟩⟩
                    · rw [hsrcE m' hm]
                      simp only [hargs, hts, hty, hsrc, htag, hx, hm q hqm, hl, hkk, q1, q2, q3, cond_true]
                    · have hkq : k2 ≠ q := fun e => hno (e ▸ hqm)
                      simp only
                      rw [upd_ins hkq, ins_comm hk]
                    · have hm : e.1 ∈ m'.map (·.1) := by rw [← upd_keys m']; exact List.mem_map.2 ⟨e, he, rfl⟩
                      obtain ⟨x, hx, e'⟩ := List.mem_map.1 hm
                      rw [← e']; exact h2 x hx
                  · cases hc
                · cases hc
              · cases hc
            · cases hc
          · cases hc
        · cases hc
    | value f => rw [ho] at hA; cases hA
    | invoke x n => rw [ho] at hA; cases hA
  | _ => rw [ho] at hA; cases hA
/-- A new variable. -/
theorem alloc_core0 {all : List Oper} {base i : Nat} {o : Oper} {tmps : List SV} {m m1 : Mem} {p : Option Prop} {r : SV} (hA : isAl o.op = true) (hc : core std T G all base i o tmps m = some (p, r, m1)) :
    ∃ b, m1 = ins m (base + i) b ∧ r = .ptr (base + i) 0 ∧ ∀ m', core std T G all base i o tmps m' = some (p, r, ins m' (base + i) b) := by
  cases ho : o.op with
  | alloc t =>
    unfold core at hc ⊢
    split at hc
    · split at hc
      · simp only [ho, coreG, pureOp] at hc
        split at hc
        · rename_i hpure; cases hpure
        · cases hc
      · cases hc
    · simp only [ho, coreU] at hc ⊢
      split at hc
      · rename_i ty hty
        cases hzz : zOk ty.zero <;> simp only [hzz, cond_true, cond_false, reduceCtorEq, Option.some.injEq, Prod.mk.injEq] at hc ⊢
        obtain ⟨rfl, rfl, rfl⟩ := hc
        exact ⟨_, rfl, rfl, fun m' => ⟨rfl, rfl, rfl⟩⟩
      · cases hc
  | box t x =>
    unfold core at hc ⊢
    split at hc
    · split at hc
      · simp only [ho, coreG, pureOp] at hc
        split at hc
        · rename_i hpure; cases hpure
        · cases hc
      · cases hc
    · simp only [ho, coreU] at hc ⊢
      split at hc
      · rename_i cs hcs
        simp only [Option.some.injEq, Prod.mk.injEq] at hc
        obtain ⟨rfl, rfl, rfl⟩ := hc
        exact ⟨_, rfl, rfl, fun m' => rfl⟩
      · cases hc
  | _ => rw [ho] at hA; cases hA
/-- A variable that is written. -/
theorem store_core0 {all : List Oper} {base i : Nat} {o : Oper} {tmps : List SV} {m m1 : Mem} {p : Option Prop} {r : SV} (hS : isSt o.op = true) (hcold : hot (ev T.gl tmps) o.op = false) (hc : core std T G all base i o tmps m = some (p, r, m1)) :
    ∃ k b y, (∃ t x, o.op = .store t y x) ∧ ment k (ev T.gl tmps y) ∧ (∃ c, look m k = some c) ∧ m1 = upd m k b ∧ ∀ m', look m' k = look m k → core std T G all base i o tmps m' = some (p, r, upd m' k b) := by
  cases ho : o.op with
  | store t y x =>
    unfold core at hc ⊢
    split at hc
    · split at hc
      · simp only [ho, coreG, pureOp] at hc
        split at hc
        · rename_i hpure; cases hpure
        · cases hc
      · cases hc
    · rename_i hg
      simp only [ho, coreU] at hc
      split at hc
      · rename_i k off l ty hy hx hty
        split at hc
        · rename_i u cs hl
          cases hb : (Nat.beq (lenW l) ty.size && Nat.ble (off + ty.size) (lenW cs)) <;> rw [hb] at hc <;> simp only [cond_true, cond_false, reduceCtorEq, Option.some.injEq, Prod.mk.injEq] at hc
          obtain ⟨rfl, rfl, rfl⟩ := hc
          refine ⟨k, _, y, ⟨t, x, rfl⟩, by rw [hy]; exact rfl, ⟨_, hl⟩, rfl, fun m' hm => ?_⟩
          simp only [ho, coreU, hy, hx, hty, hm, hl, hb, cond_true]
        · cases hc
      · rename_i hy hx hty
        rw [ho] at hcold
        simp only [hot, hy] at hcold
        cases hcold
      · rename_i q k j off l ty hy hx hty
        rw [ho] at hcold
        simp only [hot, hy] at hcold
        cases hcold
      · cases hc
  | _ => rw [ho] at hS; cases hS
/-! ### The like, a row being frozen where it is handed on -/
theorem not_ap {op : Op} (h : touch op ≠ .writes) : isAp op = false := by
  cases ha : isAp op
  · rfl
  · exact absurd (isAp_touch ha) h
theorem ld_ap {op : Op} (h : isLd op = true) : isAp op = false := by cases op <;> first | rfl | cases h
theorem sl_ap {op : Op} (h : isSl op = true) : isAp op = false := by cases op <;> first | rfl | cases h
theorem st_ap {op : Op} (h : isSt op = true) : isAp op = false := by cases op <;> first | rfl | cases h
theorem al_ap {op : Op} (h : isAl op = true) : isAp op = false := by cases op <;> first | rfl | cases h
theorem core_put {all : List Oper} {base i : Nat} {o : Oper} {tmps : List SV} {m : Mem} {d : Option Nat} {x : SV} (h : ∀ k, d = some k → k ∉ o.looksAt all.toArray) :
    coreF std T G all base i o (put tmps d x) m = coreF std T G all base i o tmps m := by
  unfold coreF
  rw [core_put0 h]
theorem core_mem {all : List Oper} {base i : Nat} {o : Oper} {tmps : List SV} {m m' m1 : Mem} {p : Option Prop} {r : SV} (ht : touch o.op ≠ .writes)
    (h : touch o.op = .none ∨ ∀ x ∈ o.op.operands.toList, ∀ k, ment k (ev T.gl tmps x) → look m k = look m' k) (hc : coreF std T G all base i o tmps m = some (p, r, m1)) :
    (m1 = m ∧ coreF std T G all base i o tmps m' = some (p, r, m')) ∨ (touch o.op ≠ .none ∧ ∃ b, m1 = ins m (base + i) b ∧ coreF std T G all base i o tmps m' = some (p, r, ins m' (base + i) b)) := by
  rw [coreF_eq (not_ap ht)] at hc ⊢
  have := core_mem0 ht h hc
  rcases this with h1 | ⟨h1, b, h2, h3⟩
  · exact .inl h1
  · exact .inr ⟨h1, b, h2, h3⟩
theorem load_core {all : List Oper} {base i : Nat} {o : Oper} {tmps : List SV} {m m1 : Mem} {p : Option Prop} {r : SV} (hL : isLd o.op = true) (hc : coreF std T G all base i o tmps m = some (p, r, m1)) :
    m1 = m ∧ ∀ m', (∀ k b, (∃ x ∈ o.op.operands.toList, ment k (ev T.gl tmps x)) → look m k = some b → look m' k = some b) → coreF std T G all base i o tmps m' = some (p, r, m') := by
  rw [coreF_eq (ld_ap hL)] at hc
  obtain ⟨h1, h2⟩ := load_core0 hL hc
  exact ⟨h1, fun m' hm => by rw [coreF_eq (ld_ap hL)]; exact h2 m' hm⟩
theorem slice_core {all : List Oper} {base i : Nat} {o : Oper} {tmps : List SV} {m m1 : Mem} {p : Option Prop} {r : SV} (hL : isSl o.op = true) (hc : coreF std T G all base i o tmps m = some (p, r, m1)) :
    m1 = m ∧ ∀ m', (∀ t x lo hi mx, o.op = .slice t x lo hi mx → ∀ k b, ment k (ev T.gl tmps x) → look m k = some b → look m' k = some b) → coreF std T G all base i o tmps m' = some (p, r, m') := by
  rw [coreF_eq (sl_ap hL)] at hc
  obtain ⟨h1, h2⟩ := slice_core0 hL hc
  exact ⟨h1, fun m' hm => by rw [coreF_eq (sl_ap hL)]; exact h2 m' hm⟩
theorem load_box {all : List Oper} {base i : Nat} {o : Oper} {tmps : List SV} {m m1 : Mem} {p : Option Prop} {r : SV} (hL : isLd o.op = true) (hh : hot (ev T.gl tmps) o.op = false) (hc : coreF std T G all base i o tmps m = some (p, r, m1))
    {x : Operand} {k : Nat} {b : Blk} (hx : x ∈ o.op.operands.toList) (hk : ment k (ev T.gl tmps x)) (hb : look m k = some b) : ∃ t c, b = .box t c := by
  rw [coreF_eq (ld_ap hL)] at hc
  exact load_box0 hL hh hc hx hk hb
theorem load_hole {all : List Oper} {base i : Nat} {o : Oper} {tmps : List SV} {m m1 : Mem} {p : Option Prop} {r : SV} (hL : isLd o.op = true) (hc : coreF std T G all base i o tmps m = some (p, r, m1))
    {x : Operand} {k : Nat} {b : Blk} (hx : x ∈ o.op.operands.toList) (hk : ment k (ev T.gl tmps x)) (hb : look m k = some b) (hh : Holed b) : False := by
  rw [coreF_eq (ld_ap hL)] at hc
  exact load_hole0 hL hc hx hk hb hh
theorem store_core {all : List Oper} {base i : Nat} {o : Oper} {tmps : List SV} {m m1 : Mem} {p : Option Prop} {r : SV} (hS : isSt o.op = true) (hcold : hot (ev T.gl tmps) o.op = false) (hc : coreF std T G all base i o tmps m = some (p, r, m1)) :
    ∃ k b y, (∃ t x, o.op = .store t y x) ∧ ment k (ev T.gl tmps y) ∧ (∃ c, look m k = some c) ∧ m1 = upd m k b ∧ ∀ m', look m' k = look m k → coreF std T G all base i o tmps m' = some (p, r, upd m' k b) := by
  rw [coreF_eq (st_ap hS)] at hc
  obtain ⟨k, b, y, h1, h2, h3, h4, h5⟩ := store_core0 hS hcold hc
  exact ⟨k, b, y, h1, h2, h3, h4, fun m' hm => by rw [coreF_eq (st_ap hS)]; exact h5 m' hm⟩
theorem alloc_core {all : List Oper} {base i : Nat} {o : Oper} {tmps : List SV} {m m1 : Mem} {p : Option Prop} {r : SV} (hA : isAl o.op = true) (hc : coreF std T G all base i o tmps m = some (p, r, m1)) :
    ∃ b, m1 = ins m (base + i) b ∧ r = .ptr (base + i) 0 ∧ ∀ m', coreF std T G all base i o tmps m' = some (p, r, ins m' (base + i) b) := by
  rw [coreF_eq (al_ap hA)] at hc
  obtain ⟨b, h1, h2, h3⟩ := alloc_core0 hA hc
  exact ⟨b, h1, h2, fun m' => by rw [coreF_eq (al_ap hA)]; exact h3 m'⟩
theorem append_back {all : List Oper} {base i : Nat} {o : Oper} {tmps : List SV} {m m1 : Mem} {p : Option Prop} {r : SV} (hA : isAp o.op = true) (hh : hot (ev T.gl tmps) o.op = false) (hc : coreF std T G all base i o tmps m = some (p, r, m1)) (hnd : m.Pairwise fun e e' => e.1 ≠ e'.1)
    {k : Nat} {b : Blk} (hk : k ≠ base + i) (hb : look m1 k = some b) : look m k = some b ∨ Holed b := by
  obtain ⟨r0, m0, h0, ⟨rfl, rfl⟩ | ⟨_, _, _, _, _, _, _, _, rfl⟩⟩ := frzU_inv hc
  · exact append_back0 hA hh h0 hnd hk hb
  · rw [look_del_other hk] at hb
    exact append_back0 hA hh h0 hnd hk hb
theorem append_box {all : List Oper} {base i : Nat} {o : Oper} {tmps : List SV} {m m1 : Mem} {p : Option Prop} {r : SV} (hA : isAp o.op = true) (hc : coreF std T G all base i o tmps m = some (p, r, m1))
    {k : Nat} {b : Blk} (hk : k ≠ base + i) (hb : look m k = some b) (hbox : ∃ t c, b = .box t c) : look m1 k = some b := by
  obtain ⟨r0, m0, h0, ⟨rfl, rfl⟩ | ⟨_, _, _, _, _, _, _, _, rfl⟩⟩ := frzU_inv hc
  · exact append_box0 hA h0 hk hb hbox
  · rw [look_del_other hk]
    exact append_box0 hA h0 hk hb hbox
theorem append_gen {all : List Oper} {base i : Nat} {o : Oper} {tmps : List SV} {m m1 : Mem} {p : Option Prop} {r : SV} (hA : isAp o.op = true) (hc : coreF std T G all base i o tmps m = some (p, r, m1)) :
    ∃ F : Mem → Mem, m1 = F m ∧ (∀ m', (∀ k, (∃ x ∈ o.op.operands.toList, ment k (ev T.gl tmps x)) → look m' k = look m k) → coreF std T G all base i o tmps m' = some (p, r, F m')) ∧
      (∀ k a m', m'.Pairwise (fun e e' => e'.1 < e.1) → (∀ e ∈ m', e.1 ≠ base + i) → k ≠ base + i → (¬ ∃ x ∈ o.op.operands.toList, ment k (ev T.gl tmps x)) → F (ins m' k a) = ins (F m') k a) := by
  obtain ⟨r0, m0, h0, hd⟩ := frzU_inv hc
  obtain ⟨F, rfl, f1, f2, f3⟩ := append_gen0 hA h0
  cases hz : frzD all o
  · have e1 : ∀ m', coreF std T G all base i o tmps m' = core std T G all base i o tmps m' := fun m' => by unfold coreF; rw [hz]; exact frzU_false _
    rcases hd with ⟨rfl, rfl⟩ | ⟨_, _, _, _, hb, _⟩
    · exact ⟨F, rfl, fun m' hm => by rw [e1]; exact f1 m' hm, fun k a m' h1 _ h2 h3 => f2 k a m' h1 h2 h3⟩
    · rw [hz] at hb; cases hb
  · rcases hd with ⟨rfl, rfl⟩ | ⟨e, k, n, f, _, rfl, hl, rfl, rfl⟩
    · refine ⟨F, rfl, fun m' hm => ?_, fun k a m' h1 _ h2 h3 => f2 k a m' h1 h2 h3⟩
      have hf := f1 m' hm
      have hcm := hc
      unfold coreF at hcm ⊢
      rw [h0, hz] at hcm
      rw [hf, hz]
      simp only [frzU, cond_true] at hcm ⊢
      split
      · rename_i q
        simp only at hcm
        cases hq : Nat.beq q (base + i) <;> simp only [hq, cond_true, cond_false] at hcm ⊢
        obtain rfl := Nat.eq_of_beq_eq_true hq
        obtain ⟨⟨bl, hbl⟩, _⟩ := f3 rfl
        rw [hbl] at hcm ⊢
        cases bl with
        | box t c => rfl
        | krow e K => rfl
        | kids K => rfl
        | kmap => rfl
        | row e k n f => simp only [Option.some.injEq, Prod.mk.injEq] at hcm; exact absurd hcm.2.1 (by intro h; cases h)
      · rfl
    · obtain ⟨⟨bl, hbl⟩, f4⟩ := f3 rfl
      have hbe : bl = .row e k n f := by have := hbl m; rw [hl] at this; exact (Option.some.inj this).symm
      subst hbe
      refine ⟨fun m' => del (F m') (base + i), rfl, fun m' hm => ?_, fun k2 a m' h1 hfr h2 h3 => ?_⟩
      · unfold coreF
        rw [f1 m' hm, hz]
        simp only [frzU, cond_true, Nat.beq_refl, hbl]
      · simp only
        rw [f2 k2 a m' h1 h2 h3, del_ins h2 (f4 m' h1 hfr)]
/-- Any operation, a call that turns a row of the caller's among them. -/
def coreX (A : Ar) (T : Tys) (G : Pu) (X : Xt) (all : List Oper) (base i : Nat) (o : Oper) (tmps : List SV) (m : Mem) : Option (Option Prop × SV × Mem) :=
  bif isWt X.wl o.op && noGuard o then wtU A X o.op (ev T.gl tmps) m (base + i) else coreF A T G all base i o tmps m
theorem coreX_eq {all : List Oper} {base i : Nat} {o : Oper} {tmps : List SV} {m : Mem} (h : (isWt X.wl o.op && noGuard o) = false) : coreX std T G X all base i o tmps m = coreF std T G all base i o tmps m := by
  unfold coreX
  rw [h]
  rfl
theorem coreX_wt {all : List Oper} {base i : Nat} {o : Oper} {tmps : List SV} {m : Mem} (h : (isWt X.wl o.op && noGuard o) = true) : coreX std T G X all base i o tmps m = wtU std X o.op (ev T.gl tmps) m (base + i) := by
  unfold coreX
  rw [h]
  rfl
theorem wt_al {o : Oper} (h : (isWt X.wl o.op && noGuard o) = true) : isAl o.op = false := by
  simp only [Bool.and_eq_true] at h
  obtain ⟨f, args, ts, e⟩ := isWt_spec h.1
  rw [e]; rfl
theorem wtU_congr {op : Op} {e e' : Operand → SV} {m : Mem} {key : Nat} (h : ∀ x ∈ op.operands.toList, e x = e' x) : wtU std X op e m key = wtU std X op e' m key := by
  cases op with
  | call c =>
    obtain ⟨callee, args, ts⟩ := c
    have hv : evAll e args.toList = evAll e' args.toList := evAll_congr fun x hx => h x (mem_args hx)
    cases callee with
    | value x => cases x <;> first | rfl | (simp only [wtU, hv])
    | _ => rfl
  | _ => rfl
theorem coreX_put {all : List Oper} {base i : Nat} {o : Oper} {tmps : List SV} {m : Mem} {d : Option Nat} {x : SV} (h : ∀ k, d = some k → k ∉ o.looksAt all.toArray) :
    coreX std T G X all base i o (put tmps d x) m = coreX std T G X all base i o tmps m := by
  unfold coreX
  rw [core_put h]
  have hev : ∀ y ∈ o.op.operands.toList, ev T.gl (put tmps d x) y = ev T.gl tmps y := fun y hy => ev_put fun k hk e => h k hk (by
    subst e
    exact List.mem_append_left _ (List.mem_filterMap.2 ⟨.tmp k, hy, rfl⟩))
  rw [wtU_congr hev]
theorem Y_core {all : List Oper} {base i : Nat} {s s' : St} {o : Oper} (ho : all[i]? = some o) : Y T G X all base i s s' ↔ ∃ p r m, coreX std T G X all base i o s.tmps s.mem = some (p, r, m) ∧ holds p ∧ s' = { s with tmps := put s.tmps o.dst r, mem := m } := by
  have e : stepX std T G X all base i o s = fin o s (coreX std T G X all base i o s.tmps s.mem) := by
    unfold stepX coreX
    cases (isWt X.wl o.op && noGuard o)
    · exact stepOp_core
    · rfl
  constructor
  · rintro ⟨o', p, ho', hst, hp⟩
    rw [ho] at ho'
    cases ho'
    rw [e] at hst
    cases hc : coreX std T G X all base i o s.tmps s.mem with
    | none => rw [hc] at hst; cases hst
    | some x =>
      obtain ⟨p', r, m⟩ := x
      rw [hc] at hst
      simp only [fin, Option.some.injEq, Prod.mk.injEq] at hst
      obtain ⟨rfl, rfl⟩ := hst
      exact ⟨p', r, m, rfl, hp, rfl⟩
  · rintro ⟨p, r, m, hc, hp, rfl⟩
    exact ⟨o, p, ho, by rw [e, hc]; rfl, hp⟩

theorem hot_put {all : List Oper} {base j : Nat} {oi oj : Oper} {s s' : St} (hj : all[j]? = some oj) (hap : oi.apart all.toArray oj = true) (hy : Y T G X all base j s s') : hot (ev T.gl s'.tmps) oi.op = hot (ev T.gl s.tmps) oi.op := by
  obtain ⟨a1, a2, a3⟩ := Oper.apart_spec hap
  obtain ⟨p, r, m, _, _, rfl⟩ := (Y_core hj).1 hy
  have hev : ∀ y ∈ oi.op.operands.toList, ev T.gl (put s.tmps oj.dst r) y = ev T.gl s.tmps y := fun y hy => ev_put fun k hk e => a3 k hk (by
    subst e
    exact List.mem_append_left _ (List.mem_filterMap.2 ⟨.tmp k, hy, rfl⟩))
  cases ho : oi.op with
  | load t x =>
    rw [ho] at hev
    simp only [hot, hev x (by simp [Op.operands])]
  | store t x y =>
    rw [ho] at hev
    simp only [hot, hev x (by simp [Op.operands])]
  | call c =>
    obtain ⟨callee, args, ts⟩ := c
    cases callee with
    | builtin b =>
      cases b <;> first | rfl | skip
      rw [ho] at hev
      simp only [hot]
      cases hargs : args.toList with
      | nil => rfl
      | cons x l =>
        simp only [hev x (mem_args (by rw [hargs]; simp))]
    | value f => rfl
    | invoke x n => rfl
  | _ => rfl

theorem ment0_of {k : Nat} {s : SV} (h : nam0 k s = true) : ment0 k s := by
  cases s <;> first | exact Nat.eq_of_beq_eq_true h | (simp only [nam0, Bool.or_eq_true] at h; exact h.imp Nat.eq_of_beq_eq_true Nat.eq_of_beq_eq_true) | cases h
theorem ment1_of {k : Nat} {s : SV} (h : nam1 k s = true) : ment1 k s := by
  unfold nam1 at h
  unfold ment1
  split at h
  · obtain ⟨x, hx, h2⟩ := List.any_eq_true.1 h
    exact ⟨x, hx, ment0_of h2⟩
  · rename_i hne
    split
    · exact absurd rfl (hne _ _)
    · exact ment0_of h
theorem ment2_of {k : Nat} {s : SV} (h : nam2 k s = true) : ment2 k s := by
  unfold nam2 at h
  unfold ment2
  split at h
  · obtain ⟨x, hx, h2⟩ := List.any_eq_true.1 h
    exact ⟨x, hx, ment1_of h2⟩
  · rename_i hne
    split
    · exact absurd rfl (hne _)
    · exact ment1_of h
theorem ment3_of {k : Nat} {s : SV} (h : nam3 k s = true) : ment3 k s := by
  unfold nam3 at h
  unfold ment3
  split at h
  · obtain ⟨x, hx, h2⟩ := List.any_eq_true.1 h
    exact ⟨x, hx, ment2_of h2⟩
  · rename_i hne
    split
    · exact absurd rfl (hne _)
    · exact ment2_of h
theorem ment_of {k : Nat} {s : SV} (h : nam k s = true) : ment k s := by
  unfold nam at h
  unfold ment
  split at h
  · exact ment3_of h
  · rename_i hne
    split
    · exact absurd rfl (hne _ _)
    · exact ment3_of h
theorem alOnly_spec {t : Nat} : ∀ {l : List Oper} {o : Oper}, alOnly t l = true → o ∈ l → o.dst = some t → isAl o.op = true
  | [], _, _, h, _ => by cases h
  | x :: l, o, ha, h, hd => by
    simp only [alOnly, Bool.and_eq_true] at ha
    rcases List.mem_cons.1 h with rfl | h
    · have := ha.1
      rw [hd] at this
      simpa using this
    · exact alOnly_spec ha.2 h hd
theorem adrOf_spec {P : Nat → Bool} {t : Nat} : ∀ {l : List Oper} {o : Oper}, adrOf P t l = true → o ∈ l → o.dst = some t → isAl o.op = true ∨ ∃ ty q i, o.op = .fieldAddr ty (.tmp q) i ∧ o.guard = none ∧ P q = true
  | [], _, _, h, _ => by cases h
  | x :: l, o, ha, h, hd => by
    simp only [adrOf, Bool.and_eq_true] at ha
    rcases List.mem_cons.1 h with rfl | h
    · have := ha.1
      rw [hd] at this
      simp only [Nat.beq_refl, cond_true, Bool.or_eq_true] at this
      rcases this with h | h
      · exact .inl h
      · split at h
        · rename_i ty q i h1 h2
          exact .inr ⟨ty, q, i, h1, h2, h⟩
        · cases h
    · exact adrOf_spec ha.2 h hd
theorem adrOf_mono {P Q : Nat → Bool} (hPQ : ∀ q, P q = true → Q q = true) {t : Nat} : ∀ {l : List Oper}, adrOf P t l = true → adrOf Q t l = true
  | [], h => rfl
  | x :: l, h => by
    simp only [adrOf, Bool.and_eq_true] at h ⊢
    refine ⟨?_, adrOf_mono hPQ h.2⟩
    have h1 := h.1
    split at h1
    · rename_i d hd
      cases hb : Nat.beq d t
      · simp
      · rw [hb] at h1
        simp only [cond_true, Bool.or_eq_true] at h1 ⊢
        rcases h1 with h1 | h1
        · exact .inl h1
        · right
          split at h1
          · exact hPQ _ h1
          · cases h1
    · rfl
theorem fieldAddr_core {all : List Oper} {base i : Nat} {o : Oper} {tmps : List SV} {m m1 : Mem} {p : Option Prop} {r : SV} {ty q j : Nat} (ho : o.op = .fieldAddr ty (.tmp q) j) (hg : o.guard = none) (hc : core std T G all base i o tmps m = some (p, r, m1)) {l : List Operand} (hp : ptrOk (ev T.gl tmps) l q = true) :
    ∃ k a b, ev T.gl tmps (.tmp q) = .ptr k a ∧ r = .ptr k b := by
  unfold core at hc
  rw [hg] at hc
  simp only [ho, coreU, pureOp] at hc
  unfold ptrOk at hp
  split at hp
  · rename_i k a he
    rw [he] at hc
    refine ⟨k, a, ?_⟩
    split at hc
    · rename_i p' r' hm
      simp only [Option.some.injEq, Prod.mk.injEq] at hc
      obtain ⟨_, rfl, _⟩ := hc
      split at hm
      · rename_i k2 off ty2 e1 e2
        cases e1
        split at hm
        · split at hm
          · rename_i o2 s2 hn
            cases hb : Nat.ble 1 s2 <;> rw [hb] at hm <;> simp at hm
            exact ⟨_, he, hm.2.symm⟩
          · cases hm
        · cases hm
      · rename_i e1 _; cases e1
      · rename_i e1 _; cases e1
      · cases hm
    · cases hc
  · rename_i he; rw [he] at hc; simp at hc
  · rename_i he; rw [he] at hc; simp at hc
  · cases hp
theorem getAt_set (l : List SV) (t : Nat) (x : SV) : getAt (setAt l t x) t = x ∨ getAt (setAt l t x) t = .un := by
  induction l generalizing t with
  | nil => cases t <;> exact .inr rfl
  | cons y l ih =>
    cases t with
    | zero => exact .inl rfl
    | succ t => exact ih t
theorem hot_put' {all : List Oper} {base j : Nat} {oi oj : Oper} {s s' : St} (hj : all[j]? = some oj) (hap : oi.apart all.toArray oj = true) (hy : Y T G X all base j s s') :
    hot (ev T.gl s'.tmps) oi.op = hot (ev T.gl s.tmps) oi.op := hot_put (G := G) (X := X) hj hap hy
theorem hot2_put (hgl : T.gl = c.gl) {listed : Array Bool} {all : List Oper} {base j : Nat} {oi oj : Oper} {s s' : St} (hj : all[j]? = some oj) (hinh : Inh c base listed s) (hjun : listed.getD j true = false) (hap : oi.apart all.toArray oj = true) (hy : Y T G X all base j s s')
    (hh : hot2 (ev T.gl s'.tmps) all oi.op = true) : hot2 (ev T.gl s.tmps) all oi.op = true := by
  have h0 := hot_put (G := G) (X := X) hj hap hy
  obtain ⟨a1, a2, a3⟩ := Oper.apart_spec hap
  obtain ⟨p, r, m, hcj, _, rfl⟩ := (Y_core hj).1 hy
  obtain ⟨a, w, ρ, hs⟩ := hinh
  have hkey : ∀ x, ¬ ment (base + j) (ev T.gl s.tmps x) := fun x hk => by
    have := (hs.ev x).ment_in (hgl ▸ hk)
    exact usedBy_not hjun this
  have hev : ∀ y ∈ oi.op.operands.toList, ev T.gl (put s.tmps oj.dst r) y = ev T.gl s.tmps y := fun y hy => ev_put fun k hk e => a3 k hk (by
    subst e
    exact List.mem_append_left _ (List.mem_filterMap.2 ⟨.tmp k, hy, rfl⟩))
  have hptr : ∀ q k b, oj.dst = some q → r = .ptr k b → (oi.op.operands.toList.all fun x => !nam k (ev T.gl s.tmps x)) = true → ptrOk (ev T.gl (put s.tmps oj.dst r)) oi.op.operands.toList q = true := by
    intro q k b hd hr hk
    have : ev T.gl (put s.tmps oj.dst (.ptr k b)) (.tmp q) = .ptr k b ∨ ev T.gl (put s.tmps oj.dst (.ptr k b)) (.tmp q) = .un := by
      rw [hd]; exact getAt_set _ _ _
    unfold ptrOk
    subst hr
    rcases this with h | h
    · rw [h]
      refine List.all_eq_true.2 fun x hx => ?_
      rw [hev x hx]
      exact List.all_eq_true.1 hk x hx
    · rw [h]
  have hfresh : (oi.op.operands.toList.all fun x => !nam (base + j) (ev T.gl s.tmps x)) = true := by
    refine List.all_eq_true.2 fun x hx => ?_
    cases hn : nam (base + j) (ev T.gl s.tmps x)
    · rfl
    · exact absurd (ment_of hn) (hkey x)
  have hsame : ∀ q, ¬ oj.dst = some q → ptrOk (ev T.gl s.tmps) oi.op.operands.toList q = true → ptrOk (ev T.gl (put s.tmps oj.dst r)) oi.op.operands.toList q = true := by
    intro q hd h2
    have hq : ev T.gl (put s.tmps oj.dst r) (.tmp q) = ev T.gl s.tmps (.tmp q) := ev_put fun k hk e => by
      cases e
      exact hd hk
    unfold ptrOk at h2 ⊢
    rw [hq]
    split at h2
    · rename_i k off he
      exact List.all_eq_true.2 fun x hx => by rw [hev x hx]; exact List.all_eq_true.1 h2 x hx
    · rfl
    · rfl
    · cases h2
  have hal : ∀ q, oj.dst = some q → isAl oj.op = true → ptrOk (ev T.gl (put s.tmps oj.dst r)) oi.op.operands.toList q = true := by
    intro q hd ha
    have hcj := hcj
    rw [coreX_eq (by cases hw : (isWt X.wl oj.op && noGuard oj); rfl; rw [wt_al hw] at ha; cases ha)] at hcj
    obtain ⟨b, _, hr, _⟩ := alloc_core ha hcj
    exact hptr q _ _ hd hr hfresh
  have hadr : ∀ f q, adr (ev T.gl s.tmps) oi.op.operands.toList all f q = true → adr (ev T.gl (put s.tmps oj.dst r)) oi.op.operands.toList all f q = true := by
    intro f
    induction f with
    | zero =>
      intro q h
      simp only [adr, Bool.and_eq_true] at h ⊢
      refine ⟨h.1, ?_⟩
      by_cases hd : oj.dst = some q
      · exact hal q hd (alOnly_spec h.1 (List.mem_of_getElem? hj) hd)
      · exact hsame q hd h.2
    | succ f ih =>
      intro q h
      simp only [adr, Bool.and_eq_true] at h ⊢
      refine ⟨adrOf_mono ih h.1, ?_⟩
      by_cases hd : oj.dst = some q
      · rcases adrOf_spec h.1 (List.mem_of_getElem? hj) hd with ha | ⟨ty, q', n, ho, hg, hp⟩
        · exact hal q hd ha
        · have hp := adr_pt hp
          obtain ⟨k, a, b, he, hr⟩ := fieldAddr_core ho hg (by rw [coreX_eq (by rw [ho]; rfl), coreF_eq (by rw [ho]; rfl)] at hcj; exact hcj) hp
          refine hptr q k b hd hr ?_
          unfold ptrOk at hp
          rw [he] at hp
          exact hp
      · exact hsame q hd h.2
  have hst : ∀ o, stOk (ev T.gl s.tmps) all oi.op o = true → stOk (ev T.gl (put s.tmps oj.dst r)) all oi.op o = true := by
    intro o ho
    unfold stOk at ho ⊢
    split
    · rename_i t q x hoo
      rw [hoo] at ho
      exact hadr _ _ ho
    · rename_i t y x hno hoo
      rw [hoo] at ho
      split at ho
      · rename_i e
        cases e
        exact (hno _ rfl).elim
      · cases ho
      · rename_i hne
        exact absurd rfl (hne _ _ _)
    · rfl
  unfold hot2 at hh ⊢
  simp only at h0
  rw [h0] at hh
  simp only [Bool.or_eq_true, Bool.and_eq_true, Bool.not_eq_true'] at hh ⊢
  rcases hh with hh | ⟨h1, h2⟩
  · exact .inl hh
  · refine .inr ⟨h1, ?_⟩
    rw [List.all_eq_false] at h2 ⊢
    obtain ⟨o, hm, hno⟩ := h2
    exact ⟨o, hm, fun e => hno (hst o e)⟩

theorem arrT_spec {T : Tys} {t : Nat} (h : arrT T t = true) : ∃ ty n e k, T t = some ty ∧ ty.tag = .array n e k := by
  unfold arrT at h
  split at h
  · rename_i ty hty
    split at h
    · rename_i n e k htag; exact ⟨ty, n, e, k, hty, htag⟩
    · cases h
  · cases h
/-- A place in an array: whatever memory is. -/
theorem idx_pure {T : Tys} {G : Pu} {t : Nat} {x y : Operand} (h : arrT T t = true) (e : Operand → SV) (m m' : Mem) : pureOp std T G (.indexAddr t x y) e m = pureOp std T G (.indexAddr t x y) e m' := by
  obtain ⟨ty, n, el, k, hty, htag⟩ := arrT_spec h
  simp only [pureOp, hty, htag]
  cases e x <;> first | rfl | (cases e y <;> first | rfl | (simp only [htag]))
theorem idx_core {all : List Oper} {base i : Nat} {o : Oper} {tmps : List SV} {m m1 : Mem} {p : Option Prop} {r : SV} {t : Nat} {x y : Operand} (ho : o.op = .indexAddr t x y) (ht : arrT T t = true) (hc : coreF std T G all base i o tmps m = some (p, r, m1)) :
    m1 = m ∧ ∀ m', coreF std T G all base i o tmps m' = some (p, r, m') := by
  have hap : isAp o.op = false := by rw [ho]; rfl
  rw [coreF_eq hap] at hc
  suffices h : m1 = m ∧ ∀ m', core std T G all base i o tmps m' = some (p, r, m') from ⟨h.1, fun m' => by rw [coreF_eq hap]; exact h.2 m'⟩
  unfold core at hc ⊢
  split at hc
  · rename_i j want hg
    split at hc
    · rename_i d hd
      rw [ho] at hc ⊢
      unfold coreG at hc ⊢
      have e0 := fun m' => idx_pure (T := T) (G := G) (x := x) (y := y) ht (envG (ev T.gl tmps) (.indexAddr t x y)) m' m
      split at hc
      · rename_i c b p' r' h1 h2
        split at hc
        · cases hc
        · cases hc
        · rename_i r'' h3 h4
          simp only [Option.some.injEq, Prod.mk.injEq] at hc
          obtain ⟨rfl, rfl, rfl⟩ := hc
          refine ⟨rfl, fun m' => ?_⟩
          simp only [e0 m', h1, h2, h3, h4]
      · cases hc
    · cases hc
  · rw [ho] at hc ⊢
    simp only [coreU] at hc ⊢
    have e0 := fun m' => idx_pure (T := T) (G := G) (x := x) (y := y) ht (ev T.gl tmps) m' m
    split at hc
    · rename_i p' r' h1
      simp only [Option.some.injEq, Prod.mk.injEq] at hc
      obtain ⟨rfl, rfl, rfl⟩ := hc
      exact ⟨rfl, fun m' => by simp only [e0 m', h1]⟩
    · cases hc
theorem wt_forms {op : Op} {e : Operand → SV} {m m1 : Mem} {key : Nat} {p : Option Prop} {r : SV} (h : wtU std X op e m key = some (p, r, m1)) :
    (∃ q c el k n g, m1 = ins (del m q) key c ∧ look m q = some (.row el k n g)) ∨ ∃ q c K K', m1 = ins (upd m q (.kids K')) key c ∧ look m q = some (.kids K) := by
  unfold wtU at h
  split at h
  · split at h
    · rename_i q rest hev
      split at h
      · rename_i el k n g hl
        split at h
        · rename_i p' n' g' hw
          cases hb : (!hasOwn rest && !inW _ X.sl) <;> rw [hb] at h <;> simp only [cond_true, cond_false, reduceCtorEq, Option.some.injEq, Prod.mk.injEq] at h
          obtain ⟨_, _, rfl⟩ := h
          exact .inl ⟨q, _, el, k, n, g, rfl, hl⟩
        · cases h
      · cases h
    · rename_i q j c i rest hev
      split at h
      · rename_i K hl
        split at h
        · split at h
          · rename_i p' n' g' hw
            cases hb : (!hasOwn rest && !inW _ X.sl) <;> rw [hb] at h <;> simp only [cond_true, cond_false, reduceCtorEq, Option.some.injEq, Prod.mk.injEq] at h
            obtain ⟨_, _, rfl⟩ := h
            exact .inr ⟨q, _, K, _, rfl, hl⟩
          · cases h
        · cases h
      · cases h
    · cases h
  · cases h
theorem look_upd_same {k : Nat} {b0 b1 : Blk} : ∀ {m : Mem}, look m k = some b0 → look (upd m k b1) k = some b1
  | [], h => by cases h
  | y :: m, h => by
    simp only [look] at h
    simp only [upd]
    cases hy : Nat.beq y.1 k <;> simp only [hy, cond_true, cond_false, look] at h ⊢
    exact look_upd_same h
theorem wt_back {op : Op} {e : Operand → SV} {m m1 : Mem} {key : Nat} {p : Option Prop} {r : SV} (h : wtU std X op e m key = some (p, r, m1)) (hnd : m.Pairwise fun e e' => e.1 ≠ e'.1)
    {k : Nat} {b : Blk} (hk : k ≠ key) (hb : look m1 k = some b) : look m k = some b ∨ Holed b := by
  rcases wt_forms h with ⟨q, c, _, _, _, _, rfl, hl⟩ | ⟨q, c, K, K', rfl, hl⟩
  · rw [look_ins hk] at hb
    by_cases hq : k = q
    · subst hq; rw [look_del_same hnd] at hb; cases hb
    · rw [look_del_other hq] at hb; exact .inl hb
  · rw [look_ins hk] at hb
    by_cases hq : k = q
    · subst hq
      rw [look_upd_same hl] at hb
      cases hb
      exact .inr (.inr ⟨_, rfl⟩)
    · rw [look_upd_other hq] at hb; exact .inl hb
theorem wt_box {op : Op} {e : Operand → SV} {m m1 : Mem} {key : Nat} {p : Option Prop} {r : SV} (h : wtU std X op e m key = some (p, r, m1))
    {k : Nat} {b : Blk} (hk : k ≠ key) (hb : look m k = some b) (hbox : ∃ t c, b = .box t c) : look m1 k = some b := by
  obtain ⟨t, c, rfl⟩ := hbox
  rcases wt_forms h with ⟨q, c, _, _, _, _, rfl, hl⟩ | ⟨q, c, K, K', rfl, hl⟩
  · rw [look_ins hk, look_del_other (fun e => by subst e; rw [hl] at hb; cases hb)]; exact hb
  · rw [look_ins hk, look_upd_other (fun e => by subst e; rw [hl] at hb; cases hb)]; exact hb
theorem freeW_spec {o : Op} (h : freeW T o = true) : touch o = .none ∨ (∃ t x y, o = .indexAddr t x y ∧ arrT T t = true) ∨ isLd o = true := by
  unfold freeW at h
  split at h
  · exact .inr (.inl ⟨_, _, _, rfl, h⟩)
  · exact .inr (.inr rfl)
  · split at h
    · rename_i h1; exact .inl h1
    · cases h
theorem Y_comm (hgl : T.gl = c.gl) {all : List Oper} {base : Nat} {i : Nat} {oi : Oper} (hi : all[i]? = some oi) (listed : Array Bool) (s s1 s2 : St) (j : Nat) (oj : Oper) (hj : all[j]? = some oj) (hji : j ≠ i)
    (hinh : Inh c base listed s) (hiun : listed.getD i true = false) (hjun : listed.getD j true = false) (hap : oi.apart all.toArray oj = true) (hcl3 : clash3 T X.wl oi.op oj.op = false ∧ (hot2 (ev T.gl s.tmps) all oi.op = true → clashH X.wl (hot (ev T.gl s.tmps) oi.op) oi.op oj.op = false))
    (hy1 : Y T G X all base i s s1) (hy2 : Y T G X all base j s1 s2) : ∃ s1', Y T G X all base j s s1' ∧ Y T G X all base i s1' s2 := by
  obtain ⟨a1, a2, a3⟩ := Oper.apart_spec hap
  obtain ⟨a, w, ρ, hs⟩ := hinh
  obtain ⟨pi, ri, mi, ci, hpi, rfl⟩ := (Y_core hi).1 hy1
  obtain ⟨pj, rj, mj, cj, hpj, rfl⟩ := (Y_core hj).1 hy2
  simp only at cj
  rw [coreX_put a1] at cj
  have hkey : ∀ x k, ment k (ev T.gl s.tmps x) → k ≠ base + i ∧ k ≠ base + j := fun x k hk => by
    have := (hs.ev x).ment_in (hgl ▸ hk)
    exact ⟨fun e => usedBy_not hiun (e ▸ this), fun e => usedBy_not hjun (e ▸ this)⟩
  have fin0 : ∀ m', coreX std T G X all base j oj s.tmps s.mem = some (pj, rj, m') → coreX std T G X all base i oi s.tmps m' = some (pi, ri, mj) → ∃ s1', Y T G X all base j s s1' ∧
      Y T G X all base i s1' { next := s.next, tmps := put (put s.tmps oi.dst ri) oj.dst rj, mem := mj, stk := s.stk } := fun m' h1 h2 =>
    ⟨{ s with tmps := put s.tmps oj.dst rj, mem := m' }, (Y_core hj).2 ⟨pj, rj, m', h1, hpj, rfl⟩,
     (Y_core hi).2 ⟨pi, ri, mj, by simp only; rw [coreX_put a3]; exact h2, hpi, by simp only; rw [put_comm _ _ _ fun k hk => a2 k hk]⟩⟩
  have hc3 := hcl3.1
  unfold clash3 at hc3
  simp only [Bool.or_eq_false_iff, Bool.and_eq_false_iff, Bool.not_eq_false'] at hc3
  have hcl2 : clash2 oi.op oj.op = false ∧ (hot2 (ev T.gl s.tmps) all oi.op = true → clashH X.wl (hot (ev T.gl s.tmps) oi.op) oi.op oj.op = false) := ⟨hc3.1, hcl3.2⟩
  cases hwi : (isWt X.wl oi.op && noGuard oi)
  rotate_left
  · -- it turns a row: what is free beside it touches no memory, or reads variables
    have hwi1 : isWt X.wl oi.op = true := by simp only [Bool.and_eq_true] at hwi; exact hwi.1
    have hfj : freeW T oj.op = true := by
      rcases hc3.2.1 with h | h
      · rw [hwi1] at h; cases h
      · exact h
    have hwj : (isWt X.wl oj.op && noGuard oj) = false := by
      cases hw : isWt X.wl oj.op
      · rfl
      · obtain ⟨f, args, ts, e⟩ := isWt_spec hw
        rw [e] at hfj
        cases hfj
    rw [coreX_eq hwj] at cj
    rcases freeW_spec hfj with hnj | ⟨t, x, y, ho, ht⟩ | hL
    · rcases core_mem (m' := s.mem) (by rw [hnj]; exact fun e => by cases e) (.inl hnj) cj with ⟨rfl, h2⟩ | ⟨hne, _⟩
      · exact fin0 s.mem (by rw [coreX_eq hwj]; exact h2) ci
      · exact absurd hnj hne
    · obtain ⟨rfl, h2⟩ := idx_core ho ht cj
      exact fin0 s.mem (by rw [coreX_eq hwj]; exact h2 s.mem) ci
    · obtain ⟨rfl, hl⟩ := load_core hL cj
      refine fin0 s.mem ((coreX_eq hwj).trans (hl s.mem fun k b hk hb => ?_)) ci
      obtain ⟨x, hx, hk⟩ := hk
      rw [coreX_wt hwi] at ci
      rcases wt_back ci (nodup_of_apart hs.mem.apart) (hkey x k hk).1 hb with h | hh
      · exact h
      · exact (load_hole hL cj hx hk hb hh).elim
  cases hwj : (isWt X.wl oj.op && noGuard oj)
  rotate_left
  · have hwj1 : isWt X.wl oj.op = true := by simp only [Bool.and_eq_true] at hwj; exact hwj.1
    have hfi : freeW T oi.op = true := by
      rcases hc3.2.2 with h | h
      · rw [hwj1] at h; cases h
      · exact h
    rw [coreX_eq hwi] at ci
    rcases freeW_spec hfi with hni | ⟨t, x, y, ho, ht⟩ | hL
    · rcases core_mem (m' := mj) (by rw [hni]; exact fun e => by cases e) (.inl hni) ci with ⟨rfl, h2⟩ | ⟨hne, _⟩
      · exact fin0 mj cj (by rw [coreX_eq hwi]; exact h2)
      · exact absurd hni hne
    · obtain ⟨rfl, h2⟩ := idx_core ho ht ci
      exact fin0 mj cj (by rw [coreX_eq hwi]; exact h2 mj)
    · have hcold : hot (ev T.gl s.tmps) oi.op = false := by
        cases hh : hot (ev T.gl s.tmps) oi.op
        · rfl
        · have h2 : hot2 (ev T.gl s.tmps) all oi.op = true := by unfold hot2; rw [hh]; rfl
          have h3 := hcl2.2 h2
          rw [hh] at h3
          simp only [clashH, cond_true, Bool.or_eq_false_iff] at h3
          rw [hwj1] at h3
          cases h3.2
      obtain ⟨rfl, hl⟩ := load_core hL ci
      refine fin0 mj cj ((coreX_eq hwi).trans (hl mj fun k b hk hb => ?_))
      obtain ⟨x, hx, hk⟩ := hk
      rw [coreX_wt hwj] at cj
      exact wt_box cj (hkey x k hk).2 hb (load_box hL hcold ci hx hk hb)
  have fin' : ∀ m', coreF std T G all base j oj s.tmps s.mem = some (pj, rj, m') → coreF std T G all base i oi s.tmps m' = some (pi, ri, mj) → ∃ s1', Y T G X all base j s s1' ∧
      Y T G X all base i s1' { next := s.next, tmps := put (put s.tmps oi.dst ri) oj.dst rj, mem := mj, stk := s.stk } := fun m' h1 h2 => fin0 m' (by rw [coreX_eq hwj]; exact h1) (by rw [coreX_eq hwi]; exact h2)
  rw [coreX_eq hwi] at ci
  rw [coreX_eq hwj] at cj
  by_cases hold : clash oi.op oj.op = false
  rotate_left
  · have hold' : clash oi.op oj.op = true := by simpa using hold
    have hcold : hot (ev T.gl s.tmps) oi.op = false := by
      cases hh : hot (ev T.gl s.tmps) oi.op
      · rfl
      · have h2 : hot2 (ev T.gl s.tmps) all oi.op = true := by unfold hot2; rw [hh]; rfl
        have h3 := hcl2.2 h2
        rw [hh] at h3
        simp only [clashH, cond_true, Bool.or_eq_false_iff] at h3
        exact absurd h3.1 hold
    have hpair : (isAp oi.op = true ∧ isLd oj.op = true) ∨ (isLd oi.op = true ∧ isAp oj.op = true) ∨ (isRd oi.op = true ∧ isSt oj.op = true) ∨ (isAp oi.op = true ∧ isAl oj.op = true) ∨ (isAl oi.op = true ∧ isAp oj.op = true) ∨ (isAp oi.op = true ∧ isSl oj.op = true) := by
      have := hcl2.1
      unfold clash2 at this
      rw [hold'] at this
      revert this
      cases isAp oi.op <;> cases isLd oi.op <;> cases isAp oj.op <;> cases isLd oj.op <;> cases isRd oi.op <;> cases isSt oj.op <;> cases isAl oi.op <;> cases isAl oj.op <;> cases isSl oj.op <;> simp
    have hnd := nodup_of_apart hs.mem.apart
    rcases hpair with ⟨hA, hL⟩ | ⟨hL, hA⟩ | ⟨hR, hS⟩ | ⟨hA, hL⟩ | ⟨hL, hA⟩ | ⟨hA, hL⟩
    · -- put behind first, read then
      obtain ⟨rfl, hl⟩ := load_core hL cj
      refine fin' s.mem (hl s.mem fun k b hk hb => ?_) ci
      obtain ⟨x, hx, hk⟩ := hk
      have hne := (hkey x k hk).1
      rcases append_back hA hcold ci hnd hne hb with h | hh
      · exact h
      · exact (load_hole hL cj hx hk hb hh).elim
    · obtain ⟨rfl, hl⟩ := load_core hL ci
      refine fin' mj cj (hl mj fun k b hk hb => ?_)
      obtain ⟨x, hx, hk⟩ := hk
      have hne := (hkey x k hk).2
      exact append_box hA cj hne hb (load_box hL hcold ci hx hk hb)
    · -- what is read lies elsewhere
      have hrd : touch oi.op = .reads := by
        unfold isRd at hR
        cases ht : touch oi.op <;> rw [ht] at hR <;> first | rfl | cases hR
      have hcold2 : hot2 (ev T.gl s.tmps) all oi.op = false := by
        cases hh : hot2 (ev T.gl s.tmps) all oi.op
        · rfl
        · have h3 := hcl2.2 hh
          rw [hcold] at h3
          simp only [clashH, cond_false, hR, hS, Bool.and_self, Bool.true_eq_false] at h3
      have hst : stOk (ev T.gl s.tmps) all oi.op oj = true := by
        unfold hot2 at hcold2
        rw [hcold, hR] at hcold2
        simp only [Bool.false_or, Bool.true_and, Bool.not_eq_false'] at hcold2
        exact List.all_eq_true.1 hcold2 oj (List.mem_of_getElem? hj)
      obtain ⟨k', b', y, hy, hment, hlk, rfl, hgen⟩ := store_core hS (stOk_cold hst hS) cj
      have hk1 := (hkey y k' hment).1
      have hno : ∀ x ∈ oi.op.operands.toList, ∀ k, ment k (ev T.gl s.tmps x) → k ≠ k' := fun x hx k hk e => stOk_spec hst hy hment x hx (e ▸ hk)
      have hsame : look mi k' = look s.mem k' := by
        rcases core_mem (m' := s.mem) (by rw [hrd]; exact fun e => by cases e) (.inr fun _ _ _ _ => rfl) ci with ⟨rfl, _⟩ | ⟨_, b, rfl, _⟩
        · rfl
        · exact look_ins hk1 _
      have h1 := hgen s.mem hsame.symm
      refine fin' (upd s.mem k' b') h1 ?_
      rcases core_mem (m' := upd s.mem k' b') (by rw [hrd]; exact fun e => by cases e) (.inr fun x hx k hk => (look_upd_other (hno x hx k hk) s.mem).symm) ci with ⟨rfl, h2⟩ | ⟨_, b, rfl, h2⟩
      · exact h2
      · rw [upd_ins (Ne.symm hk1)]; exact h2
    · -- put behind beside a new variable
      obtain ⟨F, rfl, f1, f2⟩ := append_gen hA ci
      obtain ⟨b, rfl, _, hb⟩ := alloc_core hL cj
      have hno : ¬ ∃ x ∈ oi.op.operands.toList, ment (base + j) (ev T.gl s.tmps x) := fun ⟨x, _, hk⟩ => (hkey x _ hk).2 rfl
      refine fin' _ (hb s.mem) ?_
      rw [f1 _ fun k ⟨x, _, hk⟩ => look_ins (hkey x k hk).2 s.mem]
      rw [f2 _ _ _ hs.mem.sorted (fun e he e' => usedBy_not hiun (e' ▸ hs.mem.key e he)) (by omega) hno]
    · obtain ⟨b, rfl, _, hb⟩ := alloc_core hL ci
      obtain ⟨F, rfl, f1, f2⟩ := append_gen hA cj
      have hno : ¬ ∃ x ∈ oj.op.operands.toList, ment (base + i) (ev T.gl s.tmps x) := fun ⟨x, _, hk⟩ => (hkey x _ hk).1 rfl
      have h1 := f1 s.mem fun k ⟨x, _, hk⟩ => (look_ins (hkey x k hk).1 s.mem).symm
      refine fin' _ h1 ?_
      rw [f2 _ _ _ hs.mem.sorted (fun e he e' => usedBy_not hjun (e' ▸ hs.mem.key e he)) (by omega) hno]
      exact hb _
    · -- put behind first, sliced then
      obtain ⟨rfl, hl⟩ := slice_core hL cj
      refine fin' s.mem (hl s.mem fun t x lo hi mx ho k b hk hb => ?_) ci
      have hne := (hkey x k hk).1
      rcases append_back hA hcold ci hnd hne hb with h | hh
      · exact h
      · rw [coreF_eq (sl_ap hL)] at cj
        exact (slice_hole0 hL cj hb hh x ⟨t, lo, hi, mx, ho⟩ hk).elim
  have hcl := hold
  by_cases hwj : touch oj.op = .writes
  · have hni : touch oi.op = .none := by
      unfold clash at hcl
      rw [hwj] at hcl
      cases ht : touch oi.op <;> rw [ht] at hcl <;> first | rfl | cases hcl
    rcases core_mem (m' := mj) (by rw [hni]; exact fun e => by cases e) (.inl hni) ci with ⟨rfl, h2⟩ | ⟨hne, _⟩
    · exact fin' mj cj h2
    · exact absurd hni hne
  · by_cases hwi : touch oi.op = .writes
    · have hnj : touch oj.op = .none := by
        unfold clash at hcl
        rw [hwi] at hcl
        cases ht : touch oj.op <;> rw [ht] at hcl <;> first | rfl | cases hcl
      rcases core_mem (m' := s.mem) (by rw [hnj]; exact fun e => by cases e) (.inl hnj) cj with ⟨rfl, h2⟩ | ⟨hne, _⟩
      · exact fin' s.mem h2 ci
      · exact absurd hnj hne
    · have hlook : ∀ (m : Mem) (q : Nat) (b : Blk), (∀ x k, ment k (ev T.gl s.tmps x) → k ≠ q) → ∀ x ∈ oj.op.operands.toList, ∀ k, ment k (ev T.gl s.tmps x) → look (ins m q b) k = look m k := fun m q b hq x _ k hk => look_ins (hq x k hk) m
      rcases core_mem (m' := s.mem) hwi (.inr fun _ _ _ _ => rfl) ci with ⟨rfl, _⟩ | ⟨_, bi, rfl, _⟩
      · -- oi leaves memory
        rcases core_mem (m' := s.mem) hwj (.inr fun _ _ _ _ => rfl) cj with ⟨rfl, _⟩ | ⟨_, bj, rfl, _⟩
        · exact fin' _ cj ci
        · refine fin' _ cj ?_
          rcases core_mem (m' := ins s.mem (base + j) bj) hwi (.inr fun x _ k hk => (look_ins (hkey x k hk).2 s.mem).symm) ci with ⟨_, h2⟩ | ⟨_, b, e, _⟩
          · exact h2
          · have := congrArg List.length e
            have hl : ∀ m : Mem, (ins m (base + i) b).length = m.length + 1 := fun m => by
              induction m with
              | nil => rfl
              | cons x m ih => obtain ⟨k, y⟩ := x; simp only [ins]; cases Nat.ble k (base + i) <;> simp [ih]
            rw [hl] at this
            omega
      · rcases core_mem (m' := s.mem) hwj (.inr fun x _ k hk => look_ins (hkey x k hk).1 s.mem) cj with ⟨rfl, h1⟩ | ⟨_, bj, rfl, h1⟩
        · exact fin' _ h1 ci
        · refine fin' _ h1 ?_
          rcases core_mem (m' := ins s.mem (base + j) bj) hwi (.inr fun x _ k hk => (look_ins (hkey x k hk).2 s.mem).symm) ci with ⟨e, _⟩ | ⟨_, b, e, h2⟩
          · have := congrArg List.length e
            have hl : ∀ m : Mem, (ins m (base + i) bi).length = m.length + 1 := fun m => by
              induction m with
              | nil => rfl
              | cons x m ih => obtain ⟨k, y⟩ := x; simp only [ins]; cases Nat.ble k (base + i) <;> simp [ih]
            rw [hl] at this
            omega
          · have hbb : ∀ m : Mem, ins m (base + i) bi = ins m (base + i) b → bi = b := fun m => by
              induction m with
              | nil => intro e; simp only [ins] at e; cases e; rfl
              | cons x m ih =>
                obtain ⟨k, y⟩ := x
                simp only [ins]
                cases Nat.ble k (base + i) <;> simp only [cond_true, cond_false]
                · intro e; injection e with _ e; exact ih e
                · intro e; injection e with e _; cases e; rfl
            obtain rfl := hbb _ e
            rw [ins_comm (by omega)]
            exact h2
end
end Go.Vd

