/- The call's own memory: a block more, a block turned. -/
import Derived.Test.YtnndgblnbhlplaaVdPure
set_option linter.unusedVariables false
set_option linter.unusedSimpArgs false
namespace Go.Vd
open Go.RowKit

theorem mem_ins {e : Nat × Blk} {key : Nat} {b : Blk} : ∀ {m : Mem}, e ∈ ins m key b ↔ e = (key, b) ∨ e ∈ m
  | [] => by simp [ins]
  | (k, c) :: m => by
    simp only [ins]
    cases Nat.ble k key <;> simp only [cond_true, cond_false, List.mem_cons, mem_ins (m := m)]
    constructor
    · rintro (h | h | h) <;> simp [h]
    · rintro (h | h | h) <;> simp [h]
theorem mem_del {e : Nat × Blk} {key : Nat} : ∀ {m : Mem}, e ∈ del m key → e ∈ m
  | [], h => h
  | (k, c) :: m, h => by
    simp only [del] at h
    cases hk : Nat.beq k key <;> simp only [hk, cond_true, cond_false, List.mem_cons] at h
    · rcases h with h | h
      · exact List.mem_cons.2 (.inl h)
      · exact List.mem_cons.2 (.inr (mem_del h))
    · exact List.mem_cons.2 (.inr h)

theorem Apart.symm {ρ : Nat → Value} {e e' : Nat × Blk} (h : Apart ρ e e') : Apart ρ e' e := ⟨h.1.symm, fun b hb hb' => h.2 b hb' hb⟩

theorem pairwise_ins {ρ : Nat → Value} {key : Nat} {b : Blk} : ∀ {m : Mem}, m.Pairwise (Apart ρ) → (∀ e ∈ m, Apart ρ (key, b) e) → (ins m key b).Pairwise (Apart ρ)
  | [], _, _ => by simp [ins]
  | (k, c) :: m, hp, h => by
    simp only [ins]
    cases Nat.ble k key <;> simp only [cond_true, cond_false]
    · rw [List.pairwise_cons] at hp ⊢
      refine ⟨fun e he => ?_, pairwise_ins hp.2 fun e he => h e (List.mem_cons_of_mem _ he)⟩
      rcases mem_ins.1 he with rfl | he
      · exact (h _ (List.mem_cons_self ..)).symm
      · exact hp.1 e he
    · exact List.pairwise_cons.2 ⟨h, hp⟩
theorem sorted_ins {key : Nat} {b : Blk} : ∀ {m : Mem}, m.Pairwise (fun e e' => e'.1 < e.1) → (∀ e ∈ m, e.1 ≠ key) → (ins m key b).Pairwise fun e e' => e'.1 < e.1
  | [], _, _ => by simp [ins]
  | (k, c) :: m, hp, h => by
    simp only [ins]
    have hk := h (k, c) (List.mem_cons_self ..)
    have hp' := List.pairwise_cons.1 hp
    cases hb : Nat.ble k key <;> simp only [cond_true, cond_false]
    · refine List.pairwise_cons.2 ⟨fun e he => ?_, sorted_ins hp'.2 fun e he => h e (List.mem_cons_of_mem _ he)⟩
      rcases mem_ins.1 he with rfl | he
      · have : ¬ k ≤ key := fun e => by rw [Nat.ble_eq_true_of_le e] at hb; cases hb
        simp only; omega
      · exact hp'.1 e he
    · have hle := Nat.le_of_ble_eq_true hb
      have hlt : k < key := by simp only at hk; omega
      refine List.pairwise_cons.2 ⟨fun e he => ?_, hp⟩
      rcases List.mem_cons.1 he with rfl | he
      · exact hlt
      · have h2 := hp'.1 e he
        simp only at h2 ⊢
        omega
theorem sorted_del {key : Nat} : ∀ {m : Mem}, m.Pairwise (fun e e' => e'.1 < e.1) → (del m key).Pairwise fun e e' => e'.1 < e.1
  | [], _ => by simp [del]
  | (k, c) :: m, hp => by
    rw [List.pairwise_cons] at hp
    simp only [del]
    cases Nat.beq k key <;> simp only [cond_true, cond_false]
    · exact List.pairwise_cons.2 ⟨fun e he => hp.1 e (mem_del he), sorted_del hp.2⟩
    · exact hp.2
theorem pairwise_del {ρ : Nat → Value} {key : Nat} : ∀ {m : Mem}, m.Pairwise (Apart ρ) → (del m key).Pairwise (Apart ρ)
  | [], _ => by simp [del]
  | (k, c) :: m, hp => by
    rw [List.pairwise_cons] at hp
    simp only [del]
    cases Nat.beq k key <;> simp only [cond_true, cond_false]
    · exact List.pairwise_cons.2 ⟨fun e he => hp.1 e (mem_del he), pairwise_del hp.2⟩
    · exact hp.2
/-- What is left differs from what was struck. -/
theorem del_apart {ρ : Nat → Value} {key : Nat} {b : Blk} : ∀ {m : Mem}, m.Pairwise (Apart ρ) → look m key = some b → ∀ e ∈ del m key, Apart ρ (key, b) e
  | (k, c) :: m, hp, hl, e, he => by
    rw [List.pairwise_cons] at hp
    simp only [look] at hl
    simp only [del] at he
    cases hk : Nat.beq k key <;> simp only [hk, cond_true, cond_false] at hl he
    · rcases List.mem_cons.1 he with rfl | he
      · exact (hp.1 _ (look_mem hl)).symm
      · exact del_apart hp.2 hl e he
    · obtain rfl : k = key := Nat.eq_of_beq_eq_true hk
      simp only [Option.some.injEq] at hl
      subst hl
      exact hp.1 e he

theorem updK_same (ρ : Nat → Value) (key : Nat) (x : Value) : updK ρ key x key = x := by simp [updK]
theorem updK_other (ρ : Nat → Value) {key k : Nat} (x : Value) (h : k ≠ key) : updK ρ key x k = ρ k := by simp [updK, h]
theorem updK_old {U : Nat → Prop} {key : Nat} (hk : ¬ U key) (ρ : Nat → Value) (x : Value) : ∀ k, U k → updK ρ key x k = ρ k := fun k h => updK_other ρ x (fun e => hk (e ▸ h))

theorem hasB_key {ρ ρ' : Nat → Value} {e : Nat × Blk} (h1 : ρ' e.1 = ρ e.1) (h2 : ∀ g, kidB ρ' e.2 g ↔ kidB ρ e.2 g) (g : Nat) : hasB ρ' e g ↔ hasB ρ e g := by simp only [hasB, h1, h2 g]
theorem MemOk.hasB {F : Nat → Prop} {w : World} {ρ ρ' : Nat → Value} {m : Mem} {U : Nat → Prop} (h : MemOk F w ρ m U) (hρ : ∀ k, U k → ρ' k = ρ k) {e : Nat × Blk} (he : e ∈ m) (g : Nat) : Vd.hasB ρ' e g ↔ Vd.hasB ρ e g :=
  hasB_key (hρ _ (h.key e he)) (kidB_old (h.blk e he) hρ) g
theorem rwOf_add {F F' : Nat → Prop} {w : World} {ρ : Nat → Value} {m : Mem} {U : Nat → Prop} {key : Nat} (h : MemOk F' w ρ m U) (hk : ¬ U key) (x : Value) {b : Blk} (hkb : ∀ g, ¬ kidB (updK ρ key x) b g) (g : Nat) :
    rwOf F (updK ρ key x) (ins m key b) g ↔ rwOf F ρ m g ∨ blkNo x = some g := by
  constructor
  · rintro (h' | ⟨e, he, hb⟩)
    · exact .inl (.inl h')
    · rcases mem_ins.1 he with rfl | he
      · rcases hb with hb | hb
        · rw [updK_same] at hb; exact .inr hb
        · exact (hkb g hb).elim
      · exact .inl (.inr ⟨e, he, (h.hasB (updK_old hk ρ x) he g).1 hb⟩)
  · rintro ((h' | ⟨e, he, hb⟩) | hb)
    · exact .inl h'
    · exact .inr ⟨e, mem_ins.2 (.inr he), (h.hasB (updK_old hk ρ x) he g).2 hb⟩
    · exact .inr ⟨(key, b), mem_ins.2 (.inl rfl), .inl (by rw [updK_same]; exact hb)⟩
theorem ownOf_add {F' : Nat → Prop} {w : World} {ρ : Nat → Value} {m : Mem} {U : Nat → Prop} {key : Nat} (h : MemOk F' w ρ m U) (hk : ¬ U key) (x : Value) {b : Blk} (hkb : ∀ g, ¬ kidB (updK ρ key x) b g) (g : Nat) :
    ownOf (updK ρ key x) (ins m key b) g → ownOf ρ m g ∨ blkNo x = some g := by
  rintro ⟨e, he, hb⟩
  rcases mem_ins.1 he with rfl | he
  · rcases hb with hb | hb
    · rw [updK_same] at hb; exact .inr hb
    · exact (hkb g hb).elim
  · exact .inl ⟨e, he, (h.hasB (updK_old hk ρ x) he g).1 hb⟩

/-- A block more, under a new key. -/
theorem MemOk.add {F : Nat → Prop} {w w' : World} {ρ : Nat → Value} {m : Mem} {U : Nat → Prop} (h : MemOk F w ρ m U) {key : Nat} (hk : ¬ U key) (hx : Ext w w') {x : Value} {b : Blk}
    (hnew : ∀ g, blkNo x = some g → w.heap.size ≤ g) (hb : BlkOk w' (updK ρ key x) (fun g => rwOf F ρ m g ∨ blkNo x = some g) (withK U key) key b) (hkb : ∀ g, ¬ kidB (updK ρ key x) b g := by exact fun _ h => h) :
    MemOk F w' (updK ρ key x) (ins m key b) (withK U key) := by
  have hrw : rwOf F (updK ρ key x) (ins m key b) = fun g => rwOf F ρ m g ∨ blkNo x = some g := funext fun g => propext (rwOf_add h hk x hkb g)
  refine ⟨fun e he => ?_, fun e he => ?_, pairwise_ins ?_ fun e he => ?_, fun b hb => Nat.lt_of_lt_of_le (h.frg b hb) hx.size, sorted_ins h.sorted fun e he e' => hk (by have := h.key e he; rw [e'] at this; exact this)⟩
  · rw [hrw]
    rcases mem_ins.1 he with rfl | he
    · exact hb
    · refine (h.blk e he).mono (h.key e he) (fun k hk => .inl hk) (updK_old hk ρ x) (hx.keep _) (fun b hb hr => ?_) (fun b hb => hx.block b ((h.blk e he).lt hb) id)
      rcases hr with hr | hr
      · exact hr
      · exact absurd (hnew b hr) (by omega)
  · rcases mem_ins.1 he with rfl | he
    · exact .inr rfl
    · exact .inl (h.key e he)
  · refine h.apart.imp_of_mem fun {e e'} he he' hap => ⟨hap.1, fun b hb hb' => ?_⟩
    exact hap.2 b ((h.hasB (updK_old hk ρ x) he b).1 hb) ((h.hasB (updK_old hk ρ x) he' b).1 hb')
  · refine ⟨fun e' => hk (by have := h.key e he; rw [← e'] at this; exact this), fun b hb hb' => ?_⟩
    have hb' := (h.hasB (updK_old hk ρ x) he b).1 hb'
    rcases hb with hb | hb
    · rw [updK_same] at hb
      have := (h.blk e he).lt hb'
      have := hnew b hb
      omega
    · exact hkb b hb

theorem Rel.add {F F' : Nat → Prop} {w w' w0 : World} {ρ : Nat → Value} {m : Mem} {U : Nat → Prop} (hU : MemOk F' w0 ρ m U) {key : Nat} (hk : ¬ U key) (hx : Ext w w') {x : Value} {b : Blk}
    (hnew : ∀ g, blkNo x = some g → w.heap.size ≤ g) (hkb : ∀ g, ¬ kidB (updK ρ key x) b g) {v : Value} {s : SV} (h : Rel w ρ (rwOf F ρ m) U v s) : Rel w' (updK ρ key x) (rwOf F (updK ρ key x) (ins m key b)) (withK U key) v s := by
  refine h.mono (fun k hk => .inl hk) (updK_old hk ρ x) (hx.keep _) fun g hg hr => ?_
  rcases (rwOf_add hU hk x hkb g).1 hr with hr | hr
  · exact hr
  · exact absurd (hnew g hr) (by omega)

/-! ### A block of the call's own is written -/
theorem mem_upd {e : Nat × Blk} {key : Nat} {b : Blk} : ∀ {m : Mem}, e ∈ upd m key b → e = (key, b) ∨ e ∈ m
  | [], h => .inr h
  | (k, c) :: m, h => by
    simp only [upd] at h
    cases hk : Nat.beq k key <;> simp only [hk, cond_true, cond_false, List.mem_cons] at h
    · rcases h with h | h
      · exact .inr (List.mem_cons.2 (.inl h))
      · rcases mem_upd h with h | h
        · exact .inl h
        · exact .inr (List.mem_cons.2 (.inr h))
    · obtain rfl : k = key := Nat.eq_of_beq_eq_true hk
      rcases h with h | h
      · exact .inl h
      · exact .inr (List.mem_cons.2 (.inr h))
theorem upd_keys {key : Nat} {b : Blk} : ∀ m : Mem, (upd m key b).map (·.1) = m.map (·.1)
  | [] => rfl
  | (k, c) :: m => by
    simp only [upd]
    cases Nat.beq k key <;> simp [upd_keys m]
theorem ownOf_cons {ρ : Nat → Value} {e : Nat × Blk} {m : Mem} {g : Nat} : ownOf ρ (e :: m) g ↔ hasB ρ e g ∨ ownOf ρ m g := by
  constructor
  · rintro ⟨x, hx, h⟩
    rcases List.mem_cons.1 hx with rfl | hx
    · exact .inl h
    · exact .inr ⟨x, hx, h⟩
  · rintro (h | ⟨x, hx, h⟩)
    · exact ⟨e, List.mem_cons_self .., h⟩
    · exact ⟨x, List.mem_cons_of_mem _ hx, h⟩
/-- The same rows within. -/
abbrev Kin (ρ : Nat → Value) (b c : Blk) : Prop := ∀ g, kidB ρ b g ↔ kidB ρ c g
theorem hasB_kin {ρ : Nat → Value} {key : Nat} {b c : Blk} (h : Kin ρ b c) (g : Nat) : hasB ρ (key, b) g ↔ hasB ρ (key, c) g := by simp only [hasB, h g]
theorem ownOf_upd {ρ : Nat → Value} {key : Nat} {b c : Blk} (hb : Kin ρ b c) (g : Nat) : ∀ {m : Mem}, look m key = some c → (ownOf ρ (upd m key b) g ↔ ownOf ρ m g)
  | (k, d) :: m, hl => by
    simp only [look] at hl
    simp only [upd]
    cases hk : Nat.beq k key <;> simp only [hk, cond_true, cond_false] at hl ⊢
    · rw [ownOf_cons, ownOf_cons, ownOf_upd hb g hl]
    · simp only [Option.some.injEq] at hl
      subst hl
      rw [ownOf_cons, ownOf_cons, hasB_kin hb]
theorem rwOf_upd {F : Nat → Prop} {ρ : Nat → Value} {key : Nat} {b c : Blk} {m : Mem} (hb : Kin ρ b c) (hl : look m key = some c) (g : Nat) : rwOf F ρ (upd m key b) g ↔ rwOf F ρ m g := by
  unfold rwOf
  rw [ownOf_upd hb g hl]
theorem upd_pairwise {ρ : Nat → Value} {key : Nat} {b c : Blk} (hb : Kin ρ b c) : ∀ {m : Mem}, look m key = some c → m.Pairwise (Apart ρ) → (upd m key b).Pairwise (Apart ρ)
  | (k, d) :: m, hl, h => by
    rw [List.pairwise_cons] at h
    simp only [look] at hl
    simp only [upd]
    cases hk : Nat.beq k key <;> simp only [hk, cond_true, cond_false] at hl ⊢
    · refine List.pairwise_cons.2 ⟨fun e he => ?_, upd_pairwise hb hl h.2⟩
      rcases mem_upd he with rfl | he
      · have := h.1 _ (look_mem hl)
        exact ⟨this.1, fun x h1 h2 => this.2 x h1 ((hasB_kin hb x).1 h2)⟩
      · exact h.1 e he
    · simp only [Option.some.injEq] at hl
      subst hl
      refine List.pairwise_cons.2 ⟨fun e he => ?_, h.2⟩
      have := h.1 e he
      exact ⟨this.1, fun x h1 h2 => this.2 x ((hasB_kin hb x).1 h1) h2⟩
/-- Another entry's key is another. -/
theorem upd_other {ρ : Nat → Value} {key : Nat} {b c : Blk} : ∀ {m : Mem}, m.Pairwise (Apart ρ) → look m key = some c → ∀ e ∈ upd m key b, e = (key, b) ∨ (e ∈ m ∧ Apart ρ (key, c) e)
  | (k, d) :: m, hp, hl, e, he => by
    rw [List.pairwise_cons] at hp
    simp only [look] at hl
    simp only [upd] at he
    cases hk : Nat.beq k key <;> simp only [hk, cond_true, cond_false] at hl he
    · rcases List.mem_cons.1 he with rfl | he
      · exact .inr ⟨List.mem_cons_self .., (hp.1 _ (look_mem hl)).symm⟩
      · rcases upd_other hp.2 hl e he with h | ⟨h1, h2⟩
        · exact .inl h
        · exact .inr ⟨List.mem_cons_of_mem _ h1, h2⟩
    · obtain rfl : k = key := Nat.eq_of_beq_eq_true hk
      simp only [Option.some.injEq] at hl
      subst hl
      rcases List.mem_cons.1 he with rfl | he
      · exact .inl rfl
      · exact .inr ⟨List.mem_cons_of_mem _ he, hp.1 e he⟩

/-- The world in which block g, a block of key's, has turned. -/
theorem MemOk.write {F : Nat → Prop} {w w' : World} {ρ : Nat → Value} {m : Mem} {U : Nat → Prop} (h : MemOk F w ρ m U) {key g : Nat} {b c : Blk} (hl : look m key = some c) (hg : blkNo (ρ key) = some g)
    (hos : w'.os = w.os) (htape : w'.tape = w.tape) (hout : w'.output = w.output) (hsz : w'.heap.size = w.heap.size) (hblk : ∀ k, k ≠ g → w'.heap[k]? = w.heap[k]?)
    (hb : BlkOk w' ρ (rwOf F ρ m) U key b) (hkb : Kin ρ b c := by exact fun _ => Iff.rfl) : MemOk F w' ρ (upd m key b) U ∧ Keep (ownOf ρ m) w w' ∧ (∀ k, rwOf F ρ (upd m key b) k ↔ rwOf F ρ m k) ∧ ∀ k, ownOf ρ (upd m key b) k ↔ ownOf ρ m k := by
  have hrw : ∀ k, rwOf F ρ (upd m key b) k ↔ rwOf F ρ m k := fun k => rwOf_upd hkb hl k
  have hrw' : rwOf F ρ (upd m key b) = rwOf F ρ m := funext fun k => propext (hrw k)
  have hk0 : Keep (ownOf ρ m) w w' := ⟨hos, htape, hout, by omega, fun k hk hn => hblk k (fun e => hn (by subst e; exact ⟨_, look_mem hl, .inl hg⟩))⟩
  have hk : Keep (rwOf F ρ m) w w' := hk0.mono fun _ _ h => .inr h
  refine ⟨⟨fun e he => ?_, fun e he => ?_, upd_pairwise hkb hl h.apart, fun b hb => by have := h.frg b hb; omega, by
    have e : ∀ m : Mem, m.Pairwise (fun e e' => e'.1 < e.1) ↔ (m.map (·.1)).Pairwise fun k k' => k' < k := fun m => by rw [List.pairwise_map]
    rw [e, upd_keys]
    exact (e m).1 h.sorted⟩, hk0, hrw, fun k => ownOf_upd hkb k hl⟩
  · rw [hrw']
    rcases upd_other h.apart hl e he with rfl | ⟨he, hap⟩
    · exact hb
    · exact (h.blk e he).mono (h.key e he) (fun _ h => h) (fun _ _ => rfl) hk (fun _ _ h => h) fun k hk' => hblk k (fun e' => hap.2 g (.inl hg) (by rw [← e']; exact hk'))
  · rcases mem_upd he with rfl | he
    · have := h.key _ (look_mem hl); exact this
    · exact h.key e he
/-- A row of the call's own is turned by a callee, who may make more. -/
theorem MemOk.turn {F : Nat → Prop} {w w' : World} {ρ : Nat → Value} {m : Mem} {U : Nat → Prop} (h : MemOk F w ρ m U) {key : Nat} {b c : Blk} (hl : look m key = some c) (hg : w.grownBy w' (blkNo (ρ key)))
    (hb : BlkOk w' ρ (rwOf F ρ m) U key b) (hkb : Kin ρ b c := by exact fun _ => Iff.rfl) : MemOk F w' ρ (upd m key b) U ∧ Keep (ownOf ρ m) w w' ∧ (∀ k, rwOf F ρ (upd m key b) k ↔ rwOf F ρ m k) ∧ ∀ k, ownOf ρ (upd m key b) k ↔ ownOf ρ m k := by
  have hrw : ∀ k, rwOf F ρ (upd m key b) k ↔ rwOf F ρ m k := fun k => rwOf_upd hkb hl k
  have hrw' : rwOf F ρ (upd m key b) = rwOf F ρ m := funext fun k => propext (hrw k)
  have hk0 : Keep (ownOf ρ m) w w' := ⟨hg.os, hg.tape, hg.output, hg.size, fun k hk hn => hg.block k hk fun e => hn ⟨_, look_mem hl, .inl e.symm⟩⟩
  have hk : Keep (rwOf F ρ m) w w' := hk0.mono fun _ _ h => .inr h
  refine ⟨⟨fun e he => ?_, fun e he => ?_, upd_pairwise hkb hl h.apart, fun b hb => Nat.lt_of_lt_of_le (h.frg b hb) hg.size, by
    have e : ∀ m : Mem, m.Pairwise (fun e e' => e'.1 < e.1) ↔ (m.map (·.1)).Pairwise fun k k' => k' < k := fun m => by rw [List.pairwise_map]
    rw [e, upd_keys]
    exact (e m).1 h.sorted⟩, hk0, hrw, fun k => ownOf_upd hkb k hl⟩
  · rw [hrw']
    rcases upd_other h.apart hl e he with rfl | ⟨he, hap⟩
    · exact hb
    · exact (h.blk e he).mono (h.key e he) (fun _ h => h) (fun _ _ => rfl) hk (fun _ _ h => h) fun k hk' => hg.block k ((h.blk e he).lt hk') fun e' => hap.2 k (.inl e'.symm) hk'
  · rcases mem_upd he with rfl | he
    · have := h.key _ (look_mem hl); exact this
    · exact h.key e he
end Go.Vd

