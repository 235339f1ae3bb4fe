/- Rows of rows: a row is taken out of its cell, and put back. -/
import Derived.Test.YtjgfkbmplgiinaaGreatDoorVdW
set_option linter.unusedVariables false
set_option linter.unusedSimpArgs false
namespace Go.Vd
open Go.RowKit

section
variable {P : Program} {o : Oper} {a : Act} {w : World} {ρ : Nat → Value} {U : Nat → Prop} {c : Ctx} {s : St}

theorem upd_pairwise_le {key : Nat} {b c : Blk} (hb : ∀ g, hasB ρ (key, b) g → hasB ρ (key, c) g) : ∀ {m : Mem}, look m key = some c → m.Pairwise (Apart ρ) → (upd m key b).Pairwise (Apart ρ)
  | (k, d) :: m, hl, h => by
    rw [List.pairwise_cons] at h
    simp only [look] at hl
    simp only [upd]
    cases hk : Nat.beq k key <;> simp only [hk, cond_true, cond_false] at hl ⊢
    · refine List.pairwise_cons.2 ⟨fun e he => ?_, upd_pairwise_le hb hl h.2⟩
      rcases mem_upd he with rfl | he
      · have := h.1 _ (look_mem hl)
        exact ⟨this.1, fun x h1 h2 => this.2 x h1 (hb x h2)⟩
      · exact h.1 e he
    · simp only [Option.some.injEq] at hl
      subst hl
      obtain rfl := Nat.eq_of_beq_eq_true hk
      refine List.pairwise_cons.2 ⟨fun e he => ?_, h.2⟩
      have := h.1 e he
      exact ⟨this.1, fun x h1 h2 => this.2 x (hb x h1) h2⟩
theorem upd_sorted {key : Nat} {b : Blk} {m : Mem} (h : m.Pairwise fun e e' => e'.1 < e.1) : (upd m key b).Pairwise fun e e' => e'.1 < e.1 := by
  have e : ∀ m : Mem, m.Pairwise (fun e e' => e'.1 < e.1) ↔ (m.map (·.1)).Pairwise fun k k' => k' < k := fun m => by rw [List.pairwise_map]
  rw [e, upd_keys]
  exact (e m).1 h

theorem KidsOk.hole {rw N : Nat → Prop} {g0 : Option Nat} {xs : List Value} {K : Kids} (h : KidsOk w ρ rw N g0 xs K) (hh : K.hl = none) (i : Nat) : KidsOk w ρ rw N g0 xs { K with hl := some i } := by
  have ho : ∀ j, Kids.own { K with hl := some i } j → K.own j := fun j hj => ⟨hj.1, by rw [hh]; simp, hj.2.2⟩
  exact ⟨h.key, h.len, h.size, h.zero, fun j hj => h.name j (ho j hj), fun j hj => h.row j (ho j hj), fun j v p h1 _ h3 h4 h5 => h.frz j v p h1 (by rw [hh]; simp) h3 h4 h5,
    fun j k hne hj hk => h.apart j k hne (ho j hj) (ho k hk), fun j hj => h.outer j (ho j hj)⟩

/-- A row is taken out of its cell. -/
theorem left_kid (h : SimR c U s a w ρ) {q e i : Nat} {K : Kids} (hl : look s.mem q = some (.krow e K)) (hn : K.hl = none) (hi : K.own i) :
    Left c w ρ U s.mem (upd s.mem q (.krow e { K with hl := some i })) (blkNo (kidV (ρ K.fam) i)) := by
  obtain ⟨xs, ho, h1, hK⟩ := h.mem.blk _ (look_mem hl)
  simp only at hK ho
  have hoo : ∀ j, Kids.own { K with hl := some i } j → j ≠ i := fun j hj e => hj.2.1 (by rw [e])
  have hoj : ∀ j, Kids.own { K with hl := some i } j → K.own j := fun j hj => ⟨hj.1, by rw [hn]; simp, hj.2.2⟩
  have hsub : ∀ g, hasB ρ (q, .krow e { K with hl := some i }) g → hasB ρ (q, .krow e K) g := fun g hg => by
    rcases hg with hg | ⟨j, hj, hg⟩
    · exact .inl hg
    · exact .inr ⟨j, hoj j hj, hg⟩
  refine ⟨fun x hx => ?_, fun x hx => ?_, fun x hx g hg => ?_, fun g hg => ⟨(q, .krow e K), look_mem hl, .inr ⟨i, hi, hg⟩⟩, upd_pairwise_le hsub hl h.mem.apart, upd_sorted h.mem.sorted⟩
  · rcases mem_upd hx with rfl | hx
    · exact ⟨xs, ho, h1, hK.hole hn i⟩
    · exact h.mem.blk x hx
  · rcases mem_upd hx with rfl | hx
    · exact h.mem.key (q, .krow e K) (look_mem hl)
    · exact h.mem.key x hx
  · rcases upd_other h.mem.apart hl x hx with rfl | ⟨hx, hap⟩
    · refine ⟨⟨(q, .krow e K), look_mem hl, hsub g hg⟩, fun hb => ?_⟩
      rcases hg with hg | ⟨j, hj, hg⟩
      · exact hK.outer i hi g hb hg
      · exact hK.apart i j (fun e => hoo j hj e.symm) hi (hoj j hj) g hb hg
    · exact ⟨⟨x, hx, hg⟩, fun hb => hap.2 g (.inr ⟨i, hi, hb⟩) hg⟩

/-- A cell of a row of one cell each is written. -/
theorem ownsR_set {e n n0 c0 g i : Nat} {v u : Value} {xs : List Value} (h : ownsR w e 1 v n xs) (hv : v = .slice (some ⟨g, 0, none⟩) n0 c0) (hi : i < n0) (hu : one u) (hxs : ∀ x ∈ xs, one x) :
    ∃ cur, isC w g cur e 1 ∧ n0 = n ∧ blkNo v = some g ∧ i + 1 ≤ cur.size ∧ ownsR (w.setRow g (cur.toList.take i ++ [u] ++ cur.toList.drop (i + 1)).toArray) e 1 v n (xs.set i u) ∧ ∀ x ∈ xs.set i u, one x := by
  obtain ⟨hxl, hx⟩ := h
  rcases hx with ⟨⟨ad, e0⟩, _⟩ | ⟨g', cap, cur, e0, hc0, hg, hnc, hcm, hcs, htake⟩
  · rw [hv] at e0; injection e0 with _ e1; omega
  · rw [hv] at e0
    injection e0 with e1 e2 e3
    injection e1 with e1
    injection e1 with e1
    subst e1 e2 e3
    have hsz : (cur.toList.take i ++ [u] ++ cur.toList.drop (i + 1)).length = cur.size := by
      simp only [List.length_append, List.length_take, List.length_drop, Array.length_toList, List.length_singleton]
      omega
    refine ⟨cur, hg, rfl, by rw [hv, blkNo_slice hc0], by omega, ⟨by simpa using hxl, .inr ⟨g, c0, _, hv, hc0, hg.set (by simpa using hsz), hnc, hcm, by simpa using hsz.trans hcs, ?_⟩⟩, fun x hx => ?_⟩
    · have hset : (cur.toList.take i ++ [u] ++ cur.toList.drop (i + 1)) = cur.toList.set i u := by
        rw [List.set_eq_take_append_cons_drop, if_pos (by simp; omega)]
        simp
      simp only [hset]
      rw [List.take_set, htake]
    · rcases List.mem_or_eq_of_mem_set hx with hx | rfl
      · exact hxs x hx
      · exact hu
theorem look_del_ne {q r : Nat} (h : q ≠ r) : ∀ m : Mem, look (del m r) q = look m q
  | [] => rfl
  | (k, c) :: m => by
    simp only [del, look]
    cases hr : Nat.beq k r <;> simp only [cond_true, cond_false, look]
    · rw [look_del_ne h m]
    · obtain rfl := Nat.eq_of_beq_eq_true hr
      cases hq : Nat.beq k q <;> simp only [cond_true, cond_false]
      exact absurd (Nat.eq_of_beq_eq_true hq).symm h
theorem upd_pairwise_of {ρ : Nat → Value} {key : Nat} {b c : Blk} : ∀ {m : Mem}, (∀ x ∈ m, x.1 ≠ key → ∀ g, hasB ρ (key, b) g → ¬ hasB ρ x g) → look m key = some c → m.Pairwise (Apart ρ) → (upd m key b).Pairwise (Apart ρ)
  | (k, d) :: m, hb, hl, h => by
    rw [List.pairwise_cons] at h
    simp only [look] at hl
    simp only [upd]
    cases hk : Nat.beq k key <;> simp only [hk, cond_true, cond_false] at hl ⊢
    · refine List.pairwise_cons.2 ⟨fun e he => ?_, upd_pairwise_of (fun x hx => hb x (List.mem_cons_of_mem _ hx)) hl h.2⟩
      rcases mem_upd he with rfl | he
      · have := h.1 _ (look_mem hl)
        exact ⟨this.1, fun x h1 h2 => hb _ (List.mem_cons_self ..) this.1 x h2 h1⟩
      · exact h.1 e he
    · simp only [Option.some.injEq] at hl
      subst hl
      obtain rfl := Nat.eq_of_beq_eq_true hk
      refine List.pairwise_cons.2 ⟨fun e he => ?_, h.2⟩
      have := h.1 e he
      exact ⟨this.1, fun x h1 h2 => hb e (List.mem_cons_of_mem _ he) (fun e' => this.1 e'.symm) x h1 h2⟩

/-- The names of the rows, with another one at a place. -/
def kidsV (n : Nat) (v : Value) (i : Nat) (u : Value) : Array Value := Array.ofFn fun j : Fin n => if j.val = i then u else kidV v j.val
theorem kidsV_at {n : Nat} {v : Value} {i : Nat} {u : Value} {j : Nat} (h : j < n) : kidV (.agg (kidsV n v i u)) j = if j = i then u else kidV v j := by
  simp [kidV, kidsV, Array.getD, h]

/-- A row is put into a cell. -/
theorem kstore_ok (h : SimR c U s a w ρ) {key : Nat} (hk : ¬ U key) {t : TypeId} {ty : Ty} (ht : TyOk P t ty) (hsz : ty.size = 1) {pv xv : Value} {q r i e n : Nat} {f : Nat → Nat → SV} {K K' : Kids}
    (hp : Rel w ρ (rwOf c.F ρ s.mem) U pv (.eptr q 1 i 0)) (hx : Rel w ρ (rwOf c.F ρ s.mem) U xv (.own r)) (hlq : look s.mem q = some (.krow e K)) (hlr : look s.mem r = some (.row K.e K.k n f)) (hne : r ≠ q)
    (e1 : K'.e = K.e) (e2 : K'.k = K.k) (e3 : K'.n = K.n) (e4 : K'.ns = std.nset K.ns i n) (e5 : K'.f = std.fset K.f i f) (e6 : K'.fam = key)
    (hown : ∀ j, K'.own j → j ≠ i → K.own j)
    (hfrz : ∀ j p, j < K.n → K'.hl ≠ some j → K'.ow = some p → ¬ j < p → j ≠ i ∧ (K.hl ≠ some j ∧ ∃ p', K.ow = some p' ∧ ¬ j < p')) :
    ∃ w', (Instr.storeAt t pv xv).run P w = .ok () w' ∧ Sim c (withK U key) { s with mem := upd (del s.mem r) q (.krow e K') } a w' := by
  obtain ⟨xs, ho, h1, hK⟩ := h.mem.blk _ (look_mem hlq)
  obtain ⟨ys, hor, hy1, hyr⟩ := h.mem.blk _ (look_mem hlr)
  simp only at ho hK hor
  generalize hsp : SV.eptr q 1 i 0 = sp at hp
  generalize hsx : SV.own r = sx at hx
  cases hp with
  | eptr _ _ _ _ g n0 c0 hkq hρ hi =>
    cases hsp
    cases hx with
    | own _ hkr ho1 =>
      cases hsx
      obtain ⟨cur, hg, rfl, hb, hcs, ho', h1'⟩ := ownsR_set (u := ρ r) ho hρ hi ho1 h1
      have hix : i < xs.length := by rw [hK.len]; exact hi
      have hcells : (ρ r).cells = #[ρ r] := by
        unfold one at ho1
        unfold Value.cells
        cases hv : ρ r <;> rw [hv] at ho1 <;> first | rfl | cases ho1
      obtain ⟨ii, d, z, hii, hd, hs, _⟩ := ht
      have hst := run_store_isC (P := P) g i e [ρ r] 0 cur w hg (by simpa using hcs) (fun v hv => by obtain rfl := List.mem_singleton.1 hv; exact ho1)
      simp only [Nat.add_zero, List.length_singleton] at hst
      have hrun : (Instr.storeAt t (.pointer (some ⟨g, i * 1 + 0, none⟩)) (ρ r)).run P w = .ok () (w.setRow g (cur.toList.take i ++ [ρ r] ++ cur.toList.drop (i + 1)).toArray) := by
        have hne' : ¬ (ρ r).cells.size ≠ ii.size := by rw [hcells]; simp; omega
        rw [show i * 1 + 0 = i by omega]
        simp only [Instr.storeAt, Instr.sureAddr, Sem.run_bind, Sem.run_pure, Result.andThen_ok, storeVar, run_sizeOf hii, if_neg hne']
        rw [hcells]
        exact hst
      refine ⟨_, hrun, updK ρ key (.agg (kidsV K.n (ρ K.fam) i (ρ r))), ?_⟩
      generalize hw' : w.setRow g (cur.toList.take i ++ [ρ r] ++ cur.toList.drop (i + 1)).toArray = w' at *
      have hother : ∀ k', k' ≠ g → w'.heap[k']? = w.heap[k']? := fun k' hk => by
        rw [← hw']
        simp only [World.setRow, Array.getElem?_modify]
        rw [if_neg (fun e => hk e.symm)]
      have hgq : hasB ρ (q, .krow e K) g := .inl hb
      have hkeep0 : Keep (ownOf ρ s.mem) w w' := ⟨by rw [← hw']; rfl, by rw [← hw']; rfl, by rw [← hw']; rfl, by rw [← hw']; simp, fun b hb' hn => hother b fun e' => hn (by subst e'; exact ⟨(q, .krow e K), look_mem hlq, hgq⟩)⟩
      have hkeep : Keep (rwOf c.F ρ s.mem) w w' := hkeep0.mono fun _ _ h => .inr h
      have hρ' : ∀ k, U k → updK ρ key (.agg (kidsV K.n (ρ K.fam) i (ρ r))) k = ρ k := updK_old hk ρ _
      have hkey : updK ρ key (.agg (kidsV K.n (ρ K.fam) i (ρ r))) key = .agg (kidsV K.n (ρ K.fam) i (ρ r)) := updK_same _ _ _
      generalize updK ρ key (.agg (kidsV K.n (ρ K.fam) i (ρ r))) = ρ' at *
      have hkid : ∀ j, j < K.n → kidV (ρ' key) j = if j = i then ρ r else kidV (ρ K.fam) j := fun j hj => by rw [hkey]; exact kidsV_at hj
      have hlq1 : look (del s.mem r) q = some (.krow e K) := by rw [look_del_ne (fun e => hne e.symm)]; exact hlq
      have hap1 := pairwise_del (key := r) h.mem.apart
      have hrq := del_apart h.mem.apart hlr _ (look_mem hlq1)
      have hrg : ∀ b, blkNo (ρ r) = some b → ¬ hasB ρ (q, .krow e K) b := fun b hb' => hrq.2 b (.inl hb')
      -- the new blocks are blocks of the two
      have hnew : ∀ b, hasB ρ' (q, .krow e K') b → hasB ρ (q, .krow e K) b ∨ blkNo (ρ r) = some b := fun b hb' => by
        rcases hb' with hb' | ⟨j, hj, hb'⟩
        · simp only [hρ' q hkq] at hb'
          exact .inl (.inl hb')
        · rw [e6, hkid j (by rw [← e3]; exact hj.1)] at hb'
          split at hb'
          · exact .inr hb'
          · rename_i hji
            exact .inl (.inr ⟨j, hown j hj hji, hb'⟩)
      have hU1 : ∀ x ∈ del s.mem r, U x.1 := fun x hx => h.mem.key x (mem_del hx)
      have hold : ∀ x ∈ del s.mem r, ∀ b, hasB ρ' x b ↔ hasB ρ x b := fun x hx b => h.mem.hasB hρ' (mem_del hx) b
      have hsub : ∀ b, ownOf ρ' (upd (del s.mem r) q (.krow e K')) b → ownOf ρ s.mem b := by
        rintro b ⟨x, hx, hb'⟩
        rcases mem_upd hx with rfl | hx
        · rcases hnew b hb' with hb' | hb'
          · exact ⟨_, look_mem hlq, hb'⟩
          · exact ⟨_, look_mem hlr, .inl hb'⟩
        · exact ⟨x, mem_del hx, (hold x hx b).1 hb'⟩
      have hrw : ∀ b, b < w.heap.size → rwOf c.F ρ' (upd (del s.mem r) q (.krow e K')) b → rwOf c.F ρ s.mem b := fun b _ hb' => hb'.imp id (hsub b)
      have hrel : ∀ {u : Value} {t : SV}, Rel w ρ (rwOf c.F ρ s.mem) U u t → Rel w' ρ' (rwOf c.F ρ' (upd (del s.mem r) q (.krow e K'))) (withK U key) u t :=
        fun hu => hu.mono (fun k hk => .inl hk) hρ' hkeep hrw
      have hsame : ∀ b, b ≠ g → w'.heap[b]? = w.heap[b]? := hother
      have hkidg : ∀ j, K.own j → ∀ b, blkNo (kidV (ρ K.fam) j) = some b → b ≠ g := fun j hj b hb' e' => hK.outer j hj b hb' (by rw [hb, e'])
      have hrne : ∀ b, blkNo (ρ r) = some b → b ≠ g := fun b hb' e' => hrg b hb' (by rw [e']; exact hgq)
      have hKids : KidsOk w' ρ' (rwOf c.F ρ' (upd (del s.mem r) q (.krow e K'))) (withK U key) (blkNo (ρ' q)) (xs.set i (ρ r)) K' := by
        refine ⟨by rw [e6]; exact .inr rfl, by rw [List.length_set, e3]; exact hK.len, fun arr ha => ?_, fun hz => absurd (by rw [e6]; exact hkey) (hz _), fun j hj => ?_, fun j hj => ?_, fun j v p hj1 hj2 hj3 hj4 hv => ?_, fun j l hjl hj hl' b hb1 hb2 => ?_, fun j hj b hb1 hb2 => ?_⟩
        · rw [e6, hkey] at ha
          injection ha with ha
          rw [← ha, e3]
          simp [kidsV]
        · have hjn : j < K.n := by rw [← e3]; exact hj.1
          rw [e6, hkid j hjn, List.getElem?_set]
          by_cases hji : i = j
          · subst hji; simp [hix]
          · rw [if_neg hji, if_neg (fun e => hji e.symm)]
            exact hK.name j (hown j hj fun e => hji e.symm)
        · have hjn : j < K.n := by rw [← e3]; exact hj.1
          rw [e6, hkid j hjn, e1, e2, e4, e5]
          by_cases hji : j = i
          · subst hji
            simp only [std, nsetS, fsetS, if_true]
            exact ⟨ys, hor.same fun b hb' => hsame b (hrne b hb'), hy1, fun x l v hx hl' hv => (hyr x l v hx hl' hv).mono hkeep hrw⟩
          · simp only [std, nsetS, fsetS, if_neg hji]
            obtain ⟨zs, z1, z2, z3⟩ := hK.row j (hown j hj hji)
            exact ⟨zs, z1.same fun b hb' => hsame b (hkidg j (hown j hj hji) b hb'), z2, fun x l v hx hl' hv => (z3 x l v hx hl' hv).mono hkeep hrw⟩
        · rw [e3] at hj1
          obtain ⟨f1, f2, p', f3, f4⟩ := hfrz j p hj1 hj2 hj3 hj4
          rw [List.getElem?_set, if_neg (fun e => f1 e.symm)] at hv
          rw [e2, e4, e5]
          simp only [std, nsetS, fsetS, if_neg f1]
          exact (hK.frz j v p' hj1 f2 f3 f4 hv).mono hkeep hrw
        · have hjn : j < K.n := by rw [← e3]; exact hj.1
          have hln : l < K.n := by rw [← e3]; exact hl'.1
          rw [e6, hkid j hjn] at hb1
          rw [e6, hkid l hln] at hb2
          by_cases hji : j = i
          · rw [if_pos hji] at hb1
            have hli : l ≠ i := fun e => hjl (hji.trans e.symm)
            rw [if_neg hli] at hb2
            exact hrg b hb1 (.inr ⟨l, hown l hl' hli, hb2⟩)
          · rw [if_neg hji] at hb1
            by_cases hli : l = i
            · rw [if_pos hli] at hb2
              exact hrg b hb2 (.inr ⟨j, hown j hj hji, hb1⟩)
            · rw [if_neg hli] at hb2
              exact hK.apart j l hjl (hown j hj hji) (hown l hl' hli) b hb1 hb2
        · have hjn : j < K.n := by rw [← e3]; exact hj.1
          rw [hρ' q hkq] at hb2
          rw [e6, hkid j hjn] at hb1
          by_cases hji : j = i
          · rw [if_pos hji] at hb1
            exact hrg b hb1 (.inl hb2)
          · rw [if_neg hji] at hb1
            exact hK.outer j (hown j hj hji) b hb1 hb2
      refine ⟨h.dfr, h.sz, fun t => hrel (h.tmps t), h.stk.imp fun v s hv => hrel hv, ⟨fun x hx => ?_, fun x hx => ?_, ?_, fun b hb' => Nat.lt_of_lt_of_le (h.mem.frg b hb') hkeep.size, upd_sorted (sorted_del h.mem.sorted)⟩, ?_, fun b hb' => h.sub b (hsub b hb'), h.old, h.glb⟩
      · rcases upd_other hap1 hlq1 x hx with rfl | ⟨hx, hap⟩
        · exact ⟨xs.set i (ρ r), by rw [hρ' q hkq, e3]; exact ho', h1', hKids⟩
        · exact (h.mem.blk x (mem_del hx)).mono (hU1 x hx) (fun k hk => .inl hk) hρ' hkeep hrw fun b hb' => hsame b fun e' => hap.2 g hgq (by rw [← e']; exact hb')
      · rcases mem_upd hx with rfl | hx
        · exact .inl hkq
        · exact .inl (hU1 x hx)
      · refine upd_pairwise_of (c := .krow e K) (fun x hx hxq b hb1 hb2 => ?_) hlq1 (hap1.imp_of_mem fun {x y} hx hy hap => ⟨hap.1, fun b h1 h2 => hap.2 b ((hold x hx b).1 h1) ((hold y hy b).1 h2)⟩)
        have hb2 := (hold x hx b).1 hb2
        rcases hnew b hb1 with hb1 | hb1
        · have : ∀ {m : Mem}, m.Pairwise (Apart ρ) → look m q = some (.krow e K) → x ∈ m → ¬ hasB ρ x b := by
            intro m
            induction m with
            | nil => intro _ h _; cases h
            | cons y m ih =>
              intro hp hl hx
              rw [List.pairwise_cons] at hp
              simp only [look] at hl
              cases hyq : Nat.beq y.1 q <;> simp only [hyq, cond_true, cond_false] at hl
              · rcases List.mem_cons.1 hx with rfl | hx
                · exact fun hb => (hp.1 _ (look_mem hl)).2 b hb hb1
                · exact ih hp.2 hl hx
              · have hy0 : y = (q, .krow e K) := by
                  obtain ⟨y1, y2⟩ := y
                  simp only [Option.some.injEq] at hl
                  subst hl
                  have e0 : y1 = q := Nat.eq_of_beq_eq_true hyq
                  rw [e0]
                rcases List.mem_cons.1 hx with rfl | hx
                · exact absurd (by rw [hy0]) hxq
                · exact (hp.1 x hx).2 b (by rw [hy0]; exact hb1)
          exact this hap1 hlq1 hx hb2
        · exact (del_apart h.mem.apart hlr x hx).2 b (.inl hb1) hb2
      · refine h.keep.trans hkeep0 fun b hb' hr => ?_
        rcases h.sub b hr with h' | h'
        · exact h'
        · omega
    | _ => cases hsx
  | _ => cases hsp
theorem upd_insK {key : Nat} {b b' : Blk} : ∀ {m : Mem}, (∀ e ∈ m, e.1 ≠ key) → upd (ins m key b) key b' = ins m key b'
  | [], _ => by simp [ins, upd]
  | (k, c) :: m, h => by
    have hk : Nat.beq k key = false := by
      cases hb : Nat.beq k key
      · rfl
      · exact absurd (Nat.eq_of_beq_eq_true hb) (h (k, c) (List.mem_cons_self ..))
    simp only [ins]
    cases Nat.ble k key <;> simp only [cond_true, cond_false, upd, hk]
    · rw [upd_insK fun e he => h e (List.mem_cons_of_mem _ he)]
    · simp [Nat.beq_refl]
theorem look_insK {key : Nat} {b : Blk} : ∀ {m : Mem}, (∀ e ∈ m, e.1 ≠ key) → look (ins m key b) key = some b
  | [], _ => by simp [ins, look]
  | (k, c) :: m, h => by
    have hk : Nat.beq k key = false := by
      cases hb : Nat.beq k key
      · rfl
      · exact absurd (Nat.eq_of_beq_eq_true hb) (h (k, c) (List.mem_cons_self ..))
    simp only [ins]
    cases Nat.ble k key <;> simp only [cond_true, cond_false, look, hk]
    · exact look_insK fun e he => h e (List.mem_cons_of_mem _ he)
    · simp [Nat.beq_refl]
theorem kput_ok (h : SimR c U s a w ρ) {key : Nat} (hk : ¬ U key) {t : TypeId} {ty : Ty} (ht : TyOk P t ty) (hsz : ty.size = 1) {pv xv : Value} {q r i e n : Nat} {f : Nat → Nat → SV} {K : Kids}
    (hp : Rel w ρ (rwOf c.F ρ s.mem) U pv (.eptr q 1 i 0)) (hx : Rel w ρ (rwOf c.F ρ s.mem) U xv (.own r)) (hlq : look s.mem q = some (.krow e K)) (hlr : look s.mem r = some (.row K.e K.k n f)) (hne : r ≠ q)
    {p : Option Prop} {x : SV} {m : Mem} (hkp : kput std e K q r i n f key s.mem = some (p, x, m)) (hpp : holds p) :
    ∃ w', (Instr.storeAt t pv xv).run P w = .ok () w' ∧ (x = .un ∧ Sim c (withK U key) { s with mem := m } a w') := by
  unfold kput at hkp
  split at hkp
  · rename_i h1 h2
    simp only [Option.some.injEq, Prod.mk.injEq] at hkp
    obtain ⟨rfl, rfl, rfl⟩ := hkp
    obtain ⟨w', q1, q2⟩ := kstore_ok (P := P) (K' := { K with ns := std.nset K.ns i n, f := std.fset K.f i f, fam := key }) h hk ht hsz hp hx hlq hlr hne rfl rfl rfl rfl rfl rfl (fun j hj _ => hj) fun j p _ _ hp => by simp only [h2] at hp; cases hp
    exact ⟨w', q1, rfl, q2⟩
  · rename_i g h1 h2
    simp only [Option.some.injEq, Prod.mk.injEq] at hkp
    obtain ⟨rfl, rfl, rfl⟩ := hkp
    obtain rfl : i = g := hpp
    obtain ⟨w', q1, q2⟩ := kstore_ok (P := P) (K' := { K with ns := std.nset K.ns i n, f := std.fset K.f i f, fam := key, hl := none }) h hk ht hsz hp hx hlq hlr hne rfl rfl rfl rfl rfl rfl
      (fun j hj hji => ⟨hj.1, by rw [h1]; exact fun e => hji (Option.some.inj e).symm, hj.2.2⟩) fun j p _ _ hp => by simp only [h2] at hp; cases hp
    exact ⟨w', q1, rfl, q2⟩
  · rename_i p' h1 h2
    simp only [Option.some.injEq, Prod.mk.injEq] at hkp
    obtain ⟨rfl, rfl, rfl⟩ := hkp
    obtain rfl : i = p' := hpp
    obtain ⟨w', q1, q2⟩ := kstore_ok (P := P) (K' := { K with ns := std.nset K.ns i n, f := std.fset K.f i f, fam := key, ow := some (std.nadd i 1) }) h hk ht hsz hp hx hlq hlr hne rfl rfl rfl rfl rfl rfl
      (fun j hj hji => ⟨hj.1, hj.2.1, fun p hp => by
        have h3 := hj.2.2 (i + 1) rfl
        rw [h2] at hp
        cases hp
        omega⟩) fun j p h3 h4 h5 h6 => by
        simp only [Option.some.injEq] at h5
        have h7 : i + 1 = p := h5
        exact ⟨by omega, h4, i, h2, by omega⟩
    exact ⟨w', q1, rfl, q2⟩
  · cases hkp
/-- A row that was read out of its cell. -/
theorem kid_facts (h : SimR c U s a w ρ) {q e i : Nat} {K : Kids} {v : Value} (hl : look s.mem q = some (.krow e K)) (hh : K.hl = none) (ho : K.ow = none) (hv : Rel w ρ (rwOf c.F ρ s.mem) U v (.kid q K.fam i)) :
    v = kidV (ρ K.fam) i ∧ (K.own i ∧ ∃ xs, ownsR w K.e K.k (kidV (ρ K.fam) i) (K.ns i) xs ∧ (∀ u ∈ xs, one u) ∧ ∀ x j u, x < K.ns i → j < K.k → xs[x * K.k + j]? = some u → RelC w (rwOf c.F ρ s.mem) u (K.f i x j)) := by
  have hlim := kid_lim h.mem hl
  obtain ⟨xs, _, h1, hK⟩ := h.mem.blk _ (look_mem hl)
  generalize hs : SV.kid q K.fam i = t at hv
  cases hv with
  | kid _ _ _ hk hf ho1 hi =>
    cases hs
    have hown : K.own i := ⟨hi _ hlim, by rw [hh]; simp, fun p h => by rw [ho] at h; cases h⟩
    exact ⟨rfl, hown, hK.row i hown⟩
  | _ => cases hs
theorem claim_row {key : Nat} : (∀ {s s' : SV} {b : Blk}, claim1 key s = some (s', b) → ∃ e k n f, b = .row e k n f) ∧ (∀ {l l' : List SV} {b : Blk}, claimL key l = some (l', b) → ∃ e k n f, b = .row e k n f) ∧
    (∀ {s s' : SV} {b : Blk}, claim2 key s = some (s', b) → ∃ e k n f, b = .row e k n f) ∧ ∀ {l l' : List SV} {b : Blk}, claimT key l = some (l', b) → ∃ e k n f, b = .row e k n f := by
  have c1 : ∀ {s s' : SV} {b : Blk}, claim1 key s = some (s', b) → ∃ e k n f, b = .row e k n f := fun {s s' b} h => by
    cases s <;> simp only [claim1, Option.some.injEq, Prod.mk.injEq, reduceCtorEq] at h
    exact ⟨_, _, _, _, h.2.symm⟩
  have cL : ∀ {l l' : List SV} {b : Blk}, claimL key l = some (l', b) → ∃ e k n f, b = .row e k n f := fun {l} => by
    induction l with
    | nil => intro l' b h; cases h
    | cons s l ih =>
      intro l' b h
      simp only [claimL] at h
      split at h
      · rename_i s' b' h'
        simp only [Option.some.injEq, Prod.mk.injEq] at h
        rw [← h.2]; exact c1 h'
      · split at h
        · rename_i l'' b' h'
          simp only [Option.some.injEq, Prod.mk.injEq] at h
          rw [← h.2]; exact ih h'
        · cases h
  have c2 : ∀ {s s' : SV} {b : Blk}, claim2 key s = some (s', b) → ∃ e k n f, b = .row e k n f := fun {s s' b} h => by
    cases s <;> simp only [claim2, Option.some.injEq, Prod.mk.injEq, reduceCtorEq] at h
    · exact ⟨_, _, _, _, h.2.symm⟩
    · split at h
      · rename_i l' b' h'
        simp only [Option.some.injEq, Prod.mk.injEq] at h
        rw [← h.2]; exact cL h'
      · cases h
  refine ⟨c1, cL, c2, fun {l} => ?_⟩
  induction l with
  | nil => intro l' b h; cases h
  | cons s l ih =>
    intro l' b h
    simp only [claimT] at h
    split at h
    · rename_i s' b' h'
      simp only [Option.some.injEq, Prod.mk.injEq] at h
      rw [← h.2]; exact c2 h'
    · split at h
      · rename_i l'' b' h'
        simp only [Option.some.injEq, Prod.mk.injEq] at h
        rw [← h.2]; exact ih h'
      · cases h
theorem claim_kid {key : Nat} {r r' : SV} {b : Blk} (h : claim key r = (r', some b)) (ρ : Nat → Value) (g : Nat) : ¬ kidB ρ b g := by
  have : ∃ e k n f, b = .row e k n f := by
    unfold claim at h
    split at h
    · split at h
      · rename_i l' b' h'
        simp only [Prod.mk.injEq, Option.some.injEq] at h
        rw [← h.2]; exact claim_row.2.2.2 h'
      · simp at h
    · split at h
      · rename_i s' b' h'
        simp only [Prod.mk.injEq, Option.some.injEq] at h
        rw [← h.2]; exact claim_row.2.2.1 h'
      · simp at h
  obtain ⟨e, k, n, f, rfl⟩ := this
  exact fun h => h
/-- A row of nils is a row of rows. -/
theorem krow_make {e1 k1 el n key : Nat} {tm : List SV} {m : Mem} (hm : ∀ x ∈ m, x.1 ≠ key) (h : SimR c U { s with tmps := tm, mem := ins m key (.row el 1 n fun _ j => getAt [.nils] j) } a w ρ) :
    SimR c U { s with tmps := tm, mem := ins m key (.krow el ⟨e1, k1, n, fun _ => 0, fun _ _ _ => .any, none, key, none⟩) } a w ρ := by
  have hl := look_insK (b := .row el 1 n fun _ j => getAt [.nils] j) hm
  obtain ⟨xs, ho, h1, hr⟩ := h.mem.blk _ (look_mem hl)
  simp only at ho hr
  have hna : ∀ arr, ρ key ≠ .agg arr := fun arr e => by
    rcases ho.2 with ⟨⟨_, e0⟩, _⟩ | ⟨_, _, _, e0, _⟩ <;> rw [e0] at e <;> cases e
  have hkv : ∀ i, kidV (ρ key) i = .slice none 0 0 := fun i => by
    unfold kidV
    split
    · rename_i arr he; exact (hna arr he).elim
    · rfl
  have hkin : Kin ρ (.krow el ⟨e1, k1, n, fun _ => 0, fun _ _ _ => .any, none, key, none⟩) (.row el 1 n fun _ j => getAt [.nils] j) := fun g => by
    constructor
    · rintro ⟨i, _, hb⟩
      simp only [hkv] at hb
      cases hb
    · exact fun h => h.elim
  obtain ⟨m1, m2, m3, m4⟩ := h.mem.turn (b := .krow el ⟨e1, k1, n, fun _ => 0, fun _ _ _ => .any, none, key, none⟩) hl (w' := w) ⟨rfl, rfl, rfl, Nat.le_refl _, fun _ _ _ => rfl⟩ ⟨xs, ho, h1, ⟨h.mem.key _ (look_mem hl), by rw [ho.1]; simp, fun arr ha => (hna arr ha).elim, fun _ _ _ _ => rfl, fun i hi => (by
    have hin : i < xs.length := by rw [ho.1]; simpa using hi.1
    have hx := hr i 0 xs[i] hi.1 (by omega) (by simp [hin])
    simp only [hkv]
    rw [List.getElem?_eq_getElem hin]
    simp only [getAt] at hx
    generalize xs[i] = y at hx
    cases hx
    rfl), fun i hi => ⟨[], by simp only [hkv]; exact ⟨by simp, .inl ⟨⟨_, rfl⟩, rfl⟩⟩, (fun v hv => by cases hv), fun x j v hx => absurd hx (by simp)⟩, fun i v p _ _ hp => (by simp at hp), fun i j _ _ _ g hb => (by rw [hkv] at hb; cases hb), fun i _ g hb => (by rw [hkv] at hb; cases hb)⟩⟩ hkin
  have := h.written m1 m2 m3 m4
  simp only [upd_insK hm] at this
  exact this
end
end Go.Vd

