/- The call's own memory: a block more, a block turned. -/
import Derived.Test.YtjgfkbmplgiinaaDoorVdPure
set_option linter.unusedVariables false
set_option linter.unusedSimpArgs false
namespace Go.Vd
open Go.RowKit

theorem mem_ins {e : Nat × Blk} {key : Nat} {b : Blk} : ∀ {m : Mem}, e ∈ ins m key b ↔ e = (key, b) ∨ e ∈ m
  | [] => by simp [ins]
  | (k, c) :: m => by
    simp only [ins]
    cases Nat.ble k key <;> simp only [cond_true, cond_false, List.mem_cons, mem_ins (m := m)]
    constructor
    · rintro (h | h | h) <;> simp [h]
    · rintro (h | h | h) <;> simp [h]
theorem mem_del {e : Nat × Blk} {key : Nat} : ∀ {m : Mem}, e ∈ del m key → e ∈ m
  | [], h => h
  | (k, c) :: m, h => by
    simp only [del] at h
    cases hk : Nat.beq k key <;> simp only [hk, cond_true, cond_false, List.mem_cons] at h
    · rcases h with h | h
      · exact List.mem_cons.2 (.inl h)
      · exact List.mem_cons.2 (.inr (mem_del h))
    · exact List.mem_cons.2 (.inr h)

theorem Apart.symm {ρ : Nat → Value} {e e' : Nat × Blk} (h : Apart ρ e e') : Apart ρ e' e := ⟨h.1.symm, fun b hb hb' => h.2 b hb' hb⟩

theorem pairwise_ins {ρ : Nat → Value} {key : Nat} {b : Blk} : ∀ {m : Mem}, m.Pairwise (Apart ρ) → (∀ e ∈ m, Apart ρ (key, b) e) → (ins m key b).Pairwise (Apart ρ)
  | [], _, _ => by simp [ins]
  | (k, c) :: m, hp, h => by
    simp only [ins]
    cases Nat.ble k key <;> simp only [cond_true, cond_false]
    · rw [List.pairwise_cons] at hp ⊢
      refine ⟨fun e he => ?_, pairwise_ins hp.2 fun e he => h e (List.mem_cons_of_mem _ he)⟩
      rcases mem_ins.1 he with rfl | he
      · exact (h _ (List.mem_cons_self ..)).symm
      · exact hp.1 e he
    · exact List.pairwise_cons.2 ⟨h, hp⟩
theorem sorted_ins {key : Nat} {b : Blk} : ∀ {m : Mem}, m.Pairwise (fun e e' => e'.1 < e.1) → (∀ e ∈ m, e.1 ≠ key) → (ins m key b).Pairwise fun e e' => e'.1 < e.1
  | [], _, _ => by simp [ins]
  | (k, c) :: m, hp, h => by
    simp only [ins]
    have hk := h (k, c) (List.mem_cons_self ..)
    have hp' := List.pairwise_cons.1 hp
    cases hb : Nat.ble k key <;> simp only [cond_true, cond_false]
    · refine List.pairwise_cons.2 ⟨fun e he => ?_, sorted_ins hp'.2 fun e he => h e (List.mem_cons_of_mem _ he)⟩
      rcases mem_ins.1 he with rfl | he
      · have : ¬ k ≤ key := fun e => by rw [Nat.ble_eq_true_of_le e] at hb; cases hb
        simp only; omega
      · exact hp'.1 e he
    · have hle := Nat.le_of_ble_eq_true hb
      have hlt : k < key := by simp only at hk; omega
      refine List.pairwise_cons.2 ⟨fun e he => ?_, hp⟩
      rcases List.mem_cons.1 he with rfl | he
      · exact hlt
      · have h2 := hp'.1 e he
        simp only at h2 ⊢
        omega
theorem sorted_del {key : Nat} : ∀ {m : Mem}, m.Pairwise (fun e e' => e'.1 < e.1) → (del m key).Pairwise fun e e' => e'.1 < e.1
  | [], _ => by simp [del]
  | (k, c) :: m, hp => by
    rw [List.pairwise_cons] at hp
    simp only [del]
    cases Nat.beq k key <;> simp only [cond_true, cond_false]
    · exact List.pairwise_cons.2 ⟨fun e he => hp.1 e (mem_del he), sorted_del hp.2⟩
    · exact hp.2
theorem pairwise_del {ρ : Nat → Value} {key : Nat} : ∀ {m : Mem}, m.Pairwise (Apart ρ) → (del m key).Pairwise (Apart ρ)
  | [], _ => by simp [del]
  | (k, c) :: m, hp => by
    rw [List.pairwise_cons] at hp
    simp only [del]
    cases Nat.beq k key <;> simp only [cond_true, cond_false]
    · exact List.pairwise_cons.2 ⟨fun e he => hp.1 e (mem_del he), pairwise_del hp.2⟩
    · exact hp.2
/-- What is left differs from what was struck. -/
theorem del_apart {ρ : Nat → Value} {key : Nat} {b : Blk} : ∀ {m : Mem}, m.Pairwise (Apart ρ) → look m key = some b → ∀ e ∈ del m key, Apart ρ (key, b) e
  | (k, c) :: m, hp, hl, e, he => by
    rw [List.pairwise_cons] at hp
    simp only [look] at hl
    simp only [del] at he
    cases hk : Nat.beq k key <;> simp only [hk, cond_true, cond_false] at hl he
    · rcases List.mem_cons.1 he with rfl | he
      · exact (hp.1 _ (look_mem hl)).symm
      · exact del_apart hp.2 hl e he
    · obtain rfl : k = key := Nat.eq_of_beq_eq_true hk
      simp only [Option.some.injEq] at hl
      subst hl
      exact hp.1 e he

theorem updK_same (ρ : Nat → Value) (key : Nat) (x : Value) : updK ρ key x key = x := by simp [updK]
theorem updK_other (ρ : Nat → Value) {key k : Nat} (x : Value) (h : k ≠ key) : updK ρ key x k = ρ k := by simp [updK, h]
theorem updK_old {U : Nat → Prop} {key : Nat} (hk : ¬ U key) (ρ : Nat → Value) (x : Value) : ∀ k, U k → updK ρ key x k = ρ k := fun k h => updK_other ρ x (fun e => hk (e ▸ h))

theorem rwOf_add {F : Nat → Prop} {ρ : Nat → Value} {m : Mem} {U : Nat → Prop} {key : Nat} (hU : ∀ e ∈ m, U e.1) (hk : ¬ U key) (x : Value) (b : Blk) (g : Nat) :
    rwOf F (updK ρ key x) (ins m key b) g ↔ rwOf F ρ m g ∨ blkNo x = some g := by
  constructor
  · rintro (h | ⟨e, he, hb⟩)
    · exact .inl (.inl h)
    · rcases mem_ins.1 he with rfl | he
      · rw [updK_same] at hb; exact .inr hb
      · rw [updK_old hk ρ x _ (hU e he)] at hb; exact .inl (.inr ⟨e, he, hb⟩)
  · rintro ((h | ⟨e, he, hb⟩) | hb)
    · exact .inl h
    · exact .inr ⟨e, mem_ins.2 (.inr he), by rw [updK_old hk ρ x _ (hU e he)]; exact hb⟩
    · exact .inr ⟨(key, b), mem_ins.2 (.inl rfl), by rw [updK_same]; exact hb⟩
theorem ownOf_add {ρ : Nat → Value} {m : Mem} {U : Nat → Prop} {key : Nat} (hU : ∀ e ∈ m, U e.1) (hk : ¬ U key) (x : Value) (b : Blk) (g : Nat) :
    ownOf (updK ρ key x) (ins m key b) g → ownOf ρ m g ∨ blkNo x = some g := by
  rintro ⟨e, he, hb⟩
  rcases mem_ins.1 he with rfl | he
  · rw [updK_same] at hb; exact .inr hb
  · rw [updK_old hk ρ x _ (hU e he)] at hb; exact .inl ⟨e, he, hb⟩

/-- A block more, under a new key. -/
theorem MemOk.add {F : Nat → Prop} {w w' : World} {ρ : Nat → Value} {m : Mem} {U : Nat → Prop} (h : MemOk F w ρ m U) {key : Nat} (hk : ¬ U key) (hx : Ext w w') {x : Value} {b : Blk}
    (hnew : ∀ g, blkNo x = some g → w.heap.size ≤ g) (hb : BlkOk w' (updK ρ key x) (fun g => rwOf F ρ m g ∨ blkNo x = some g) (withK U key) key b) :
    MemOk F w' (updK ρ key x) (ins m key b) (withK U key) := by
  have hrw : rwOf F (updK ρ key x) (ins m key b) = fun g => rwOf F ρ m g ∨ blkNo x = some g := funext fun g => propext (rwOf_add h.key hk x b g)
  refine ⟨fun e he => ?_, fun e he => ?_, pairwise_ins ?_ fun e he => ?_, fun b hb => Nat.lt_of_lt_of_le (h.frg b hb) hx.size, sorted_ins h.sorted fun e he e' => hk (by have := h.key e he; rw [e'] at this; exact this)⟩
  · rw [hrw]
    rcases mem_ins.1 he with rfl | he
    · exact hb
    · refine (h.blk e he).mono (h.key e he) (fun k hk => .inl hk) (updK_old hk ρ x) (hx.keep _) (fun b hb hr => ?_) (fun b hb => hx.block b ((h.blk e he).lt hb) id)
      rcases hr with hr | hr
      · exact hr
      · exact absurd (hnew b hr) (by omega)
  · rcases mem_ins.1 he with rfl | he
    · exact .inr rfl
    · exact .inl (h.key e he)
  · refine h.apart.imp_of_mem fun {e e'} he he' hap => ⟨hap.1, fun b hb => ?_⟩
    rw [updK_old hk ρ x _ (h.key e he)] at hb
    rw [updK_old hk ρ x _ (h.key e' he')]
    exact hap.2 b hb
  · refine ⟨fun e' => hk (by have := h.key e he; rw [← e'] at this; exact this), fun b hb hb' => ?_⟩
    rw [updK_same] at hb
    rw [updK_old hk ρ x _ (h.key e he)] at hb'
    have := (h.blk e he).lt hb'
    have := hnew b hb
    omega

theorem Rel.add {F : Nat → Prop} {w w' : World} {ρ : Nat → Value} {m : Mem} {U : Nat → Prop} (hU : ∀ e ∈ m, U e.1) {key : Nat} (hk : ¬ U key) (hx : Ext w w') {x : Value} {b : Blk}
    (hnew : ∀ g, blkNo x = some g → w.heap.size ≤ g) {v : Value} {s : SV} (h : Rel w ρ (rwOf F ρ m) U v s) : Rel w' (updK ρ key x) (rwOf F (updK ρ key x) (ins m key b)) (withK U key) v s := by
  refine h.mono (fun k hk => .inl hk) (updK_old hk ρ x) (hx.keep _) fun g hg hr => ?_
  rcases (rwOf_add hU hk x b g).1 hr with hr | hr
  · exact hr
  · exact absurd (hnew g hr) (by omega)

/-! ### A block of the call's own is written -/
theorem mem_upd {e : Nat × Blk} {key : Nat} {b : Blk} : ∀ {m : Mem}, e ∈ upd m key b → e = (key, b) ∨ e ∈ m
  | [], h => .inr h
  | (k, c) :: m, h => by
    simp only [upd] at h
    cases hk : Nat.beq k key <;> simp only [hk, cond_true, cond_false, List.mem_cons] at h
    · rcases h with h | h
      · exact .inr (List.mem_cons.2 (.inl h))
      · rcases mem_upd h with h | h
        · exact .inl h
        · exact .inr (List.mem_cons.2 (.inr h))
    · obtain rfl : k = key := Nat.eq_of_beq_eq_true hk
      rcases h with h | h
      · exact .inl h
      · exact .inr (List.mem_cons.2 (.inr h))
theorem upd_keys {key : Nat} {b : Blk} : ∀ m : Mem, (upd m key b).map (·.1) = m.map (·.1)
  | [] => rfl
  | (k, c) :: m => by
    simp only [upd]
    cases Nat.beq k key <;> simp [upd_keys m]
theorem rwOf_keys {F : Nat → Prop} {ρ : Nat → Value} {m m' : Mem} (h : m.map (·.1) = m'.map (·.1)) (b : Nat) : (rwOf F ρ m b ↔ rwOf F ρ m' b) ∧ (ownOf ρ m b ↔ ownOf ρ m' b) := by
  have : ∀ m : Mem, ownOf ρ m b ↔ ∃ k ∈ m.map (·.1), blkNo (ρ k) = some b := fun m => by
    constructor
    · rintro ⟨e, he, hb⟩; exact ⟨e.1, List.mem_map.2 ⟨e, he, rfl⟩, hb⟩
    · rintro ⟨k, hk, hb⟩
      obtain ⟨e, he, rfl⟩ := List.mem_map.1 hk
      exact ⟨e, he, hb⟩
  unfold rwOf
  rw [this m, this m', h]
  exact ⟨Iff.rfl, Iff.rfl⟩
theorem upd_pairwise {ρ : Nat → Value} {key : Nat} {b : Blk} {m : Mem} (h : m.Pairwise (Apart ρ)) : (upd m key b).Pairwise (Apart ρ) := by
  have e : ∀ m : Mem, m.Pairwise (Apart ρ) ↔ (m.map (·.1)).Pairwise fun k k' => k ≠ k' ∧ ∀ b, blkNo (ρ k) = some b → blkNo (ρ k') ≠ some b := fun m => by
    rw [List.pairwise_map]; rfl
  rw [e, upd_keys, ← e]
  exact h
/-- Another entry's key is another. -/
theorem upd_other {ρ : Nat → Value} {key : Nat} {b c : Blk} : ∀ {m : Mem}, m.Pairwise (Apart ρ) → look m key = some c → ∀ e ∈ upd m key b, e = (key, b) ∨ (e ∈ m ∧ Apart ρ (key, c) e)
  | (k, d) :: m, hp, hl, e, he => by
    rw [List.pairwise_cons] at hp
    simp only [look] at hl
    simp only [upd] at he
    cases hk : Nat.beq k key <;> simp only [hk, cond_true, cond_false] at hl he
    · rcases List.mem_cons.1 he with rfl | he
      · exact .inr ⟨List.mem_cons_self .., (hp.1 _ (look_mem hl)).symm⟩
      · rcases upd_other hp.2 hl e he with h | ⟨h1, h2⟩
        · exact .inl h
        · exact .inr ⟨List.mem_cons_of_mem _ h1, h2⟩
    · obtain rfl : k = key := Nat.eq_of_beq_eq_true hk
      simp only [Option.some.injEq] at hl
      subst hl
      rcases List.mem_cons.1 he with rfl | he
      · exact .inl rfl
      · exact .inr ⟨List.mem_cons_of_mem _ he, hp.1 e he⟩

/-- The world in which block g, a block of key's, has turned. -/
theorem MemOk.write {F : Nat → Prop} {w w' : World} {ρ : Nat → Value} {m : Mem} {U : Nat → Prop} (h : MemOk F w ρ m U) {key g : Nat} {b c : Blk} (hl : look m key = some c) (hg : blkNo (ρ key) = some g)
    (hos : w'.os = w.os) (htape : w'.tape = w.tape) (hout : w'.output = w.output) (hsz : w'.heap.size = w.heap.size) (hblk : ∀ k, k ≠ g → w'.heap[k]? = w.heap[k]?)
    (hb : BlkOk w' ρ (rwOf F ρ m) U key b) : MemOk F w' ρ (upd m key b) U ∧ Keep (ownOf ρ m) w w' ∧ (∀ k, rwOf F ρ (upd m key b) k ↔ rwOf F ρ m k) ∧ ∀ k, ownOf ρ (upd m key b) k ↔ ownOf ρ m k := by
  have hrw : ∀ k, rwOf F ρ (upd m key b) k ↔ rwOf F ρ m k := fun k => (rwOf_keys (upd_keys m) k).1
  have hrw' : rwOf F ρ (upd m key b) = rwOf F ρ m := funext fun k => propext (hrw k)
  have hk0 : Keep (ownOf ρ m) w w' := ⟨hos, htape, hout, by omega, fun k hk hn => hblk k (fun e => hn (by subst e; exact ⟨_, look_mem hl, hg⟩))⟩
  have hk : Keep (rwOf F ρ m) w w' := hk0.mono fun _ _ h => .inr h
  refine ⟨⟨fun e he => ?_, fun e he => ?_, upd_pairwise h.apart, fun b hb => by have := h.frg b hb; omega, by
    have e : ∀ m : Mem, m.Pairwise (fun e e' => e'.1 < e.1) ↔ (m.map (·.1)).Pairwise fun k k' => k' < k := fun m => by rw [List.pairwise_map]
    rw [e, upd_keys]
    exact (e m).1 h.sorted⟩, hk0, hrw, fun k => (rwOf_keys (F := F) (upd_keys m) k).2⟩
  · rw [hrw']
    rcases upd_other h.apart hl e he with rfl | ⟨he, hap⟩
    · exact hb
    · exact (h.blk e he).mono (h.key e he) (fun _ h => h) (fun _ _ => rfl) hk (fun _ _ h => h) fun k hk' => hblk k (fun e' => hap.2 g hg (by rw [← e']; exact hk'))
  · rcases mem_upd he with rfl | he
    · have := h.key _ (look_mem hl); exact this
    · exact h.key e he
/-- A row of the call's own is turned by a callee, who may make more. -/
theorem MemOk.turn {F : Nat → Prop} {w w' : World} {ρ : Nat → Value} {m : Mem} {U : Nat → Prop} (h : MemOk F w ρ m U) {key : Nat} {b c : Blk} (hl : look m key = some c) (hg : w.grownBy w' (blkNo (ρ key)))
    (hb : BlkOk w' ρ (rwOf F ρ m) U key b) : MemOk F w' ρ (upd m key b) U ∧ Keep (ownOf ρ m) w w' ∧ (∀ k, rwOf F ρ (upd m key b) k ↔ rwOf F ρ m k) ∧ ∀ k, ownOf ρ (upd m key b) k ↔ ownOf ρ m k := by
  have hrw : ∀ k, rwOf F ρ (upd m key b) k ↔ rwOf F ρ m k := fun k => (rwOf_keys (upd_keys m) k).1
  have hrw' : rwOf F ρ (upd m key b) = rwOf F ρ m := funext fun k => propext (hrw k)
  have hk0 : Keep (ownOf ρ m) w w' := ⟨hg.os, hg.tape, hg.output, hg.size, fun k hk hn => hg.block k hk fun e => hn ⟨_, look_mem hl, e.symm⟩⟩
  have hk : Keep (rwOf F ρ m) w w' := hk0.mono fun _ _ h => .inr h
  refine ⟨⟨fun e he => ?_, fun e he => ?_, upd_pairwise h.apart, fun b hb => Nat.lt_of_lt_of_le (h.frg b hb) hg.size, by
    have e : ∀ m : Mem, m.Pairwise (fun e e' => e'.1 < e.1) ↔ (m.map (·.1)).Pairwise fun k k' => k' < k := fun m => by rw [List.pairwise_map]
    rw [e, upd_keys]
    exact (e m).1 h.sorted⟩, hk0, hrw, fun k => (rwOf_keys (F := F) (upd_keys m) k).2⟩
  · rw [hrw']
    rcases upd_other h.apart hl e he with rfl | ⟨he, hap⟩
    · exact hb
    · exact (h.blk e he).mono (h.key e he) (fun _ h => h) (fun _ _ => rfl) hk (fun _ _ h => h) fun k hk' => hg.block k ((h.blk e he).lt hk') fun e' => hap.2 k e'.symm hk'
  · rcases mem_upd he with rfl | he
    · have := h.key _ (look_mem hl); exact this
    · exact h.key e he
end Go.Vd

