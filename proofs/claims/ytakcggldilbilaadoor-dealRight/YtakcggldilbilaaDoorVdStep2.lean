/- One operation of a region, whatever it is. -/
import Derived.Test.YtakcggldilbilaaDoorVdW
set_option linter.unusedVariables false
set_option linter.unusedSimpArgs false
namespace Go.Vd
open Go.RowKit

section
variable {P : Program} {o : Oper} {a : Act} {w : World} {ρ : Nat → Value} {U : Nat → Prop} {c : Ctx} {s : St}

theorem run_alloc {t : TypeId} {ty : Ty} (ht : TyOk P t ty) (w : World) : ∃ z : Value, z.cells.size = ty.size ∧ ofCells z.cells.toList = ty.zero ∧ (∀ v ∈ z.cells.toList, one v) ∧
    (Instr.alloc t true (.tuple #[])).run P w = .ok (.pointer (some ⟨w.heap.size, 0, none⟩)) (w.alloc (.cells z.cells t)) := by
  obtain ⟨i, d, z, hi, hd, hs, hpos, hagg, h1, hz, hzero, hzone, hzsize, hT⟩ := ht
  refine ⟨z, by omega, hzero, hzone, ?_⟩
  simp only [Instr.alloc, Sem.run_bind, run_zeroValue hi hz, Result.andThen_ok, run_newVar, Sem.run_pure]

theorem store_ok (h : SimR c U s a w ρ) {t : TypeId} {ty : Ty} (ht : TyOk P t ty) {p x : Operand} {k off u : Nat} {l cs : List SV} (hp : ev c.gl s.tmps p = .ptr k off) (hx : cellsOf (ev c.gl s.tmps x) = some l)
    (hl : look s.mem k = some (.box u cs)) (hlen : l.length = ty.size) (hoff : off + ty.size ≤ cs.length) :
    ∃ w', (Instr.storeAt t (a.eval p) (a.eval x)).run P w = .ok () w' ∧ SimR c U { s with mem := upd s.mem k (.box u (setMany cs off l)) } a w' ρ := by
  have hpr := h.ev p
  rw [hp] at hpr
  obtain ⟨c1, c2, c3⟩ := (h.ev x).cells hx
  obtain ⟨g, arr, e, hg, hsz, hone, hrel⟩ := h.mem.blk _ (look_mem hl)
  simp only at e hg hsz hone hrel
  generalize a.eval p = pv at hpr
  cases hpr with
  | ptr _ _ g' hk hρ =>
    rw [hρ] at e
    obtain rfl : g' = g := by simpa using e
    obtain ⟨i, d, z, hi, hd, hs, _⟩ := ht
    have hvl : (a.eval x).cells.toList.length = ty.size := by simp; omega
    have hst := run_storeCells_at (P := P) g' off u (a.eval x).cells.toList 0 arr w hg (by omega) c2
    simp only [Nat.add_zero] at hst
    have hrun : (Instr.storeAt t (.pointer (some ⟨g', off, none⟩)) (a.eval x)).run P w = .ok () (w.setRow g' (listSet arr.toList off (a.eval x).cells.toList).toArray) := by
      have hne : ¬ (a.eval x).cells.size ≠ i.size := by
        simp only [Array.length_toList] at hvl
        omega
      simp only [Instr.storeAt, Instr.sureAddr, Sem.run_bind, Sem.run_pure, Result.andThen_ok, storeVar, run_sizeOf hi, if_neg hne, hst]
      rfl
    refine ⟨_, hrun, ?_⟩
    have hheap := setRow_heap w g' arr (listSet arr.toList off (a.eval x).cells.toList).toArray u (0, 0) hg
    have hother : ∀ k, k ≠ g' → (w.setRow g' (listSet arr.toList off (a.eval x).cells.toList).toArray).heap[k]? = w.heap[k]? := fun k hk => by
      simp only [World.setRow, Array.getElem?_modify]
      rw [if_neg (fun e => hk e.symm)]
    have hset := setMany_rel (w := w) (ρ := ρ) (rw := rwOf c.F ρ s.mem) (N := U) (off := off) (cs := arr.toList) (c := cs) (l := (a.eval x).cells.toList) (s := l) (by omega) (by simpa using hsz) (by omega) hone c2 (by simpa using hrel) (by simpa using c3)
    have hkeep : Keep (rwOf c.F ρ s.mem) w (w.setRow g' (listSet arr.toList off (a.eval x).cells.toList).toArray) :=
      ⟨rfl, rfl, rfl, by simp, fun b hb hn => hother b (fun e => hn (by subst e; exact .inr ⟨_, look_mem hl, by simp only [hρ]; rfl⟩))⟩
    obtain ⟨m1, m2, m3, m4⟩ := h.mem.write (w' := w.setRow g' (listSet arr.toList off (a.eval x).cells.toList).toArray) (b := .box u (setMany cs off l)) hl (g := g') (by rw [hρ]; rfl) rfl rfl rfl (by simp) hother
      ⟨g', (listSet arr.toList off (a.eval x).cells.toList).toArray, hρ, hheap, by simpa using hset.1, by simpa using hset.2.1, fun i v t hv ht => (hset.2.2 i v t (by simpa using hv) ht).mono (fun _ h => h) (fun _ _ => rfl) hkeep fun _ _ h => h⟩
    have hrw : rwOf c.F ρ (upd s.mem k (.box u (setMany cs off l))) = rwOf c.F ρ s.mem := funext fun b => propext (m3 b)
    refine ⟨h.dfr, h.sz, fun t => ?_, ?_, m1, h.keep.trans m2 fun b hb hr => ?_, fun b hb => h.sub b ((m4 b).1 hb), h.old, h.glb⟩
    · simp only [hrw]
      exact (h.tmps t).mono (fun _ h => h) (fun _ _ => rfl) (m2.mono fun _ _ h => .inr h) fun _ _ h => h
    · simp only [hrw]
      exact h.stk.imp fun v s hv => hv.mono (fun _ h => h) (fun _ _ => rfl) (m2.mono fun _ _ h => .inr h) fun _ _ h => h
    · rcases h.sub b hr with h' | h'
      · exact h'
      · omega

theorem wp_skip_op {K : Act → World → Prop} {Q : Exit → Act → World → Prop} {w' : World} (h : (execOp a.eval o).run P w = .ok .skip w') (hk : K (a.put o.dst undef) w') : o.wp P a w K Q := by
  unfold Oper.wp
  rw [h]
  exact hk

theorem blt_spec {a b : Nat} (h : Nat.blt a b = true) : a < b := by
  have := Nat.le_of_ble_eq_true h
  omega
theorem keys0_spec {b k : Nat} {s : SV} (h : keys0 b s = true) (hk : ment0 k s) : k < b := by
  cases s <;> simp only [ment0, keys0] at h hk
  · subst hk; exact blt_spec h
  · subst hk; exact blt_spec h
  · subst hk; exact blt_spec h
  · subst hk; exact blt_spec h
theorem keys1_spec {b k : Nat} {s : SV} (h : keys1 b s = true) (hk : ment1 k s) : k < b := by
  cases s with
  | clo f l =>
    obtain ⟨t, ht, hk⟩ := hk
    exact keys0_spec (List.all_eq_true.1 h t ht) hk
  | _ => simp only [keys1, ment1] at h hk; exact keys0_spec h hk
theorem keys2_spec {b k : Nat} {s : SV} (h : keys2 b s = true) (hk : ment2 k s) : k < b := by
  cases s with
  | agg l =>
    obtain ⟨t, ht, hk⟩ := hk
    exact keys1_spec (List.all_eq_true.1 h t ht) hk
  | _ => simp only [keys2, ment2] at h hk; exact keys1_spec h hk
theorem keys3_spec {b k : Nat} {s : SV} (h : keys3 b s = true) (hk : ment3 k s) : k < b := by
  cases s with
  | tup l =>
    obtain ⟨t, ht, hk⟩ := hk
    exact keys2_spec (List.all_eq_true.1 h t ht) hk
  | _ => simp only [keys3, ment3] at h hk; exact keys2_spec h hk

theorem envG_rel {w : World} {ρ : Nat → Value} {rw N : Nat → Prop} {a : Act} {e : Operand → SV} {op : Op} (h : ∀ x, Rel w ρ rw N (a.eval x) (e x)) (hn : holds (needG std e op)) : ∀ x ∈ op.operands.toList, Rel w ρ rw N (a.eval x) (envG e op x) := by
  intro x hx
  unfold needG at hn
  unfold envG
  split at hn
  · rename_i t y z
    cases x with
    | tmp t' =>
      simp only
      cases hb : Nat.beq t' t <;> simp only [cond_true, cond_false]
      · exact h _
      · obtain rfl := Nat.eq_of_beq_eq_true hb
        exact bare_rel (h _) hn
    | _ => exact h _
  · exact bare_rel (h x) (needsAll_spec hn x hx)

theorem srcOf_slc {T : Tys} {m : Mem} {t u : Nat} {y : SV} {n k : Nat} {g : Nat → Nat → SV} (h : srcOf std T m t u y = .slc n k g) : t = u ∧ deown std m y = .slc n k g := by
  unfold srcOf at h
  cases htu : Nat.beq t u <;> simp only [htu, cond_true, cond_false] at h
  · split at h
    · split at h
      · split at h <;> cases h
      · cases h
    · cases h
  · refine ⟨Nat.eq_of_beq_eq_true htu, ?_⟩
    split at h
    · rename_i e
      cases h
      exact e
    · cases h
theorem srcOf_int {T : Tys} {m : Mem} {t u : Nat} {y : SV} {k : IntKind} {z : Int} (h : srcOf std T m t u y = .int k z) : y = .int k z ∧ ∃ tu kn, T u = some tu ∧ tu.tag = .int kn := by
  unfold srcOf at h
  cases htu : Nat.beq t u <;> simp only [htu, cond_true, cond_false] at h
  · split at h
    · split at h
      · rename_i tu htu
        split at h
        · rename_i kn htag
          cases h
          exact ⟨rfl, tu, kn, htu, htag⟩
        · cases h
      · cases h
    · cases h
  · split at h <;> cases h

set_option maxHeartbeats 1000000 in
theorem stepOp_sound {T : Tys} {G : Pu} (hT : TysOk P T) (hG : PuOk P T.gl G) (hgl : T.gl = c.gl) {all : List Oper} {base i : Nat} (hU : ¬ U (base + i)) (hUb : ∀ k, k < base → U k) (h : Sim c U s a w) {p : Option Prop} {s' : St}
    (hs : stepOp std T G all base i o s = some (p, s')) (hp : holds p) {Q : Exit → Act → World → Prop} :
    if Region.wanted o (yielded all.toArray a.tmps) = true then o.wp P a w (fun a' w' => Sim c (withK U (base + i)) s' a' w') Q else Sim c (withK U (base + i)) s' (a.put o.dst undef) w := by
  obtain ⟨ρ, h⟩ := h
  unfold stepOp at hs
  rw [hgl] at hs
  split at hs
  · rename_i j want hg
    split at hs
    · rename_i d hd
      unfold coreG at hs
      split at hs
      · rename_i cc b pp r ht hpure
        rw [wanted_spec h hg hd ht]
        split at hs
        · cases hs
        · cases hs
        · rename_i rr hcl hkb
          simp only [fin, Option.some.injEq, Prod.mk.injEq] at hs
          obtain ⟨rfl, rfl⟩ := hs
          have hms : ∀ k, ment3 k r → U k := fun k hk => hUb k (keys3_spec hkb hk)
          cases hw : std.want cc b want
          · simp only [Bool.false_eq_true, if_false]
            exact ⟨ρ, (h.put (Keep.refl _ _) (.opt _ _ _ (fun e => by simp at e) (fun _ => rfl) hms) o.dst).more⟩
          · simp only [if_true]
            have hp2 : holds (both (needG std (ev c.gl s.tmps) o.op) pp) := holds_when (f := std.imp (std.want cc b want)) (fun q hq => hq hw) hp
            rw [holds_both] at hp2
            refine pureOp_sound hT hG ⟨_, hU⟩ h.mem (hgl ▸ h.gl) (e := envG (ev c.gl s.tmps) o.op) (envG_rel (fun x => h.ev x) hp2.1) hpure hp2.2 fun v w' hext hv _ => ?_
            have h0 := hv (base + i) hU
            rw [claim_key r 0 (base + i) (by rw [hcl])] at h0
            exact ⟨ρ, (h.put hext (.opt _ _ _ (fun _ => h0) (fun e => by simp at e) hms) o.dst).more⟩
      · cases hs
    · cases hs
  · rename_i hg
    have hwant : Region.wanted o (yielded all.toArray a.tmps) = true := by simp [Region.wanted, hg]
    rw [if_pos hwant]
    unfold coreU at hs
    split at hs
    · rename_i t ho
      split at hs
      · rename_i ty hty
        simp only [fin, Option.some.injEq, Prod.mk.injEq] at hs
        obtain ⟨rfl, rfl⟩ := hs
        obtain ⟨z, z1, z2, z3, z4⟩ := run_alloc (hT _ _ hty) w
        refine wp_value (v := .pointer (some ⟨w.heap.size, 0, none⟩)) (w' := w.alloc (.cells z.cells t)) (by simp only [execOp, ho, Sem.run_bind, z4]; rfl) ?_
        exact box_ok (by rw [← z2, ofCells_length]; simp) z3 h hU (fun i v s hv hs => ofCells_rel z.cells.toList i v s (by simpa using hv) (by rw [z2]; exact hs)) o.dst
      · cases hs
    · rename_i t x ho
      split at hs
      · rename_i cs hcs
        simp only [fin, Option.some.injEq, Prod.mk.injEq] at hs
        obtain ⟨rfl, rfl⟩ := hs
        obtain ⟨c1, c2, c3⟩ := (h.ev x).cells hcs
        refine wp_value (v := .pointer (some ⟨w.heap.size, 0, none⟩)) (w' := w.alloc (.cells (a.eval x).cells t)) (by simp only [execOp, ho, Instr.box, Sem.run_bind, run_newVar]; rfl) ?_
        exact box_ok c1 c2 h hU c3 o.dst
      · cases hs
    · rename_i t x y ho
      split at hs
      · rename_i k off l ty hx hy hty
        split at hs
        · rename_i u cs hl
          cases hb : (Nat.beq (len l) ty.size && Nat.ble (off + ty.size) (len cs)) <;> simp only [hb, cond_true, cond_false, fin, reduceCtorEq, Option.some.injEq, Prod.mk.injEq] at hs
          obtain ⟨rfl, rfl⟩ := hs
          simp only [Bool.and_eq_true] at hb
          obtain ⟨w', hrun, hsim⟩ := store_ok (P := P) h (hT _ _ hty) hx hy hl (by rw [← len_eq]; exact Nat.eq_of_beq_eq_true hb.1) (by rw [← len_eq cs]; exact Nat.le_of_ble_eq_true hb.2)
          refine wp_skip_op (w' := w') (by simp only [execOp, ho, Sem.run_bind, hrun]; rfl) ?_
          exact ⟨ρ, (hsim.put (Keep.refl _ _) .un o.dst).more⟩
        · cases hs
      · cases hs
    · rename_i args ts ho
      split at hs
      · rename_i x y t u hargs hts
        split at hs
        · rename_i ty kq z hty hsrc
          split at hs
          · rename_i e k by_ isb htag
            split at hs
            · rename_i te hx hte
              obtain ⟨hy, tt, kn, htn, htnt⟩ := srcOf_int hsrc
              cases hb : (closedL te.zero && Nat.beq (len te.zero) k) <;> simp only [hb, cond_true, cond_false, fin, reduceCtorEq, Option.some.injEq, Prod.mk.injEq] at hs
              obtain ⟨rfl, rfl⟩ := hs
              simp only [Bool.and_eq_true] at hb
              have ea : args = #[x, y] := by rw [← Array.toArray_toList (xs := args), hargs]
              have et : ts = #[t, u] := by rw [← Array.toArray_toList (xs := ts), hts]
              have hex : execOp a.eval o = (do pure (.value (← Builtin.append_ #[t, u] o.type #[a.eval x, a.eval y]))) := by simp [execOp, ho, resolve, invoke, builtin, ea, et]
              have hxv : a.eval x = .slice none 0 0 := by
                have := h.ev x
                rw [hx] at this
                generalize a.eval x = xv at this
                cases this
                rfl
              have hyv : a.eval y = .int kq z := by
                have := h.ev y
                rw [hy] at this
                exact this.eq_int
              obtain ⟨v, w', hrun, hsim⟩ := appendZeros_ok h hU (hT _ _ hty) htag (hT _ _ htn) htnt (hT _ _ hte) hb.1 (by rw [← len_eq]; exact Nat.eq_of_beq_eq_true hb.2) (kq := kq) (ty' := o.type) hp o.dst
              exact wp_value (v := v) (w' := w') (by rw [hex, hxv, hyv, Sem.run_bind, hrun]; rfl) hsim
            · cases hs
          · cases hs
        · rename_i ty m kk g hty hsrc
          split at hs
          · rename_i e k by_ isb htag
            cases hkk : Nat.beq k kk <;> simp only [hkk, cond_true, cond_false] at hs
            · cases hs
            obtain rfl : k = kk := Nat.eq_of_beq_eq_true hkk
            obtain ⟨rfl, hsrc2⟩ := srcOf_slc hsrc
            have ea : args = #[x, y] := by rw [← Array.toArray_toList (xs := args), hargs]
            have et : ts = #[t, t] := by rw [← Array.toArray_toList (xs := ts), hts]
            have hex : execOp a.eval o = (do pure (.value (← Builtin.append_ #[t, t] o.type #[a.eval x, a.eval y]))) := by simp [execOp, ho, resolve, invoke, builtin, ea, et]
            obtain ⟨_, d, _, _, hd, _, _, _, _, _, _, _, _, hTT⟩ := hT _ _ hty
            rw [htag] at hTT
            obtain ⟨rfl, hk0, _, ii, z, hi, his, hib, hz, hzs⟩ := hTT
            obtain ⟨ad, cp, news, hy, hnl, hn1, hnr, hnrel⟩ := reads_of h (h.ev y) hsrc2
            rw [hy] at hex
            split at hs
            · rename_i hx
              simp only [fin, Option.some.injEq, Prod.mk.injEq] at hs
              obtain ⟨rfl, rfl⟩ := hs
              have hxv : a.eval x = .slice none 0 0 := by
                have := h.ev x
                rw [hx] at this
                generalize a.eval x = xv at this
                cases this
                rfl
              obtain ⟨v', w', r1, r2, r3, r5⟩ := run_append_src (P := P) (w := w) (ty := o.type) hd hi hz his hib hzs hk0 (v := .slice none 0 0) (n := 0) (xs := []) ⟨by simp, .inl ⟨⟨_, rfl⟩, rfl⟩⟩ hnl hnr hn1 hp.1 hp.2
              refine wp_value (v := v') (w' := w') (by rw [hex, hxv, Sem.run_bind, r1]; rfl) ?_
              have := append_ok (n := 0) (f := fun _ _ => .any) (g := g) (m := m) (k := k) (xs := []) h hU (v := .slice none 0 0) (.inl ⟨rfl, rfl⟩) ⟨(fun u hu => by cases hu), (fun i j u hi => absurd hi (by omega))⟩ (by simp) ⟨hn1, hnrel⟩ r2 r3 r5 o.dst
              have e1 : std.cat 0 (fun _ _ => SV.any) g = g := by funext i j; simp [std, catS, lstS, isBS, rsetS, rcopyS, shiftS, eqrS, strOfS, bytesOfS]
              rw [e1, Nat.zero_add] at this
              exact this
            · rename_i hx
              simp only [fin, Option.some.injEq, Prod.mk.injEq] at hs
              obtain ⟨rfl, rfl⟩ := hs
              have hxv : ∃ ad0, a.eval x = .slice ad0 0 0 := by
                have := h.ev x
                rw [hx] at this
                generalize a.eval x = xv at this
                cases this
                exact ⟨_, rfl⟩
              obtain ⟨ad0, hxv⟩ := hxv
              obtain ⟨v', w', r1, r2, r3, r5⟩ := run_append_src (P := P) (w := w) (ty := o.type) hd hi hz his hib hzs hk0 (v := .slice ad0 0 0) (n := 0) (xs := []) ⟨by simp, .inl ⟨⟨_, rfl⟩, rfl⟩⟩ hnl hnr hn1 hp.1 hp.2
              refine wp_value (v := v') (w' := w') (by rw [hex, hxv, Sem.run_bind, r1]; rfl) ?_
              have := append_ok (n := 0) (f := fun _ _ => .any) (g := g) (m := m) (k := k) (xs := []) h hU (v := .slice ad0 0 0) (.inl ⟨rfl, blkNo_zero _ _⟩) ⟨(fun u hu => by cases hu), (fun i j u hi => absurd hi (by omega))⟩ (by simp) ⟨hn1, hnrel⟩ r2 r3 r5 o.dst
              have e1 : std.cat 0 (fun _ _ => SV.any) g = g := by funext i j; simp [std, catS, lstS, isBS, rsetS, rcopyS, shiftS, eqrS, strOfS, bytesOfS]
              rw [e1, Nat.zero_add] at this
              exact this
            · rename_i q hx
              split at hs
              · rename_i e' k' n f hl
                cases hb : (Nat.beq e e' && Nat.beq k k') <;> simp only [hb, cond_true, cond_false, fin, reduceCtorEq, Option.some.injEq, Prod.mk.injEq] at hs
                obtain ⟨rfl, rfl⟩ := hs
                simp only [Bool.and_eq_true] at hb
                obtain rfl : e = e' := Nat.eq_of_beq_eq_true hb.1
                obtain rfl : k = k' := Nat.eq_of_beq_eq_true hb.2
                have hxv : a.eval x = ρ q := by
                  have := h.ev x
                  rw [hx] at this
                  generalize a.eval x = xv at this
                  cases this
                  rfl
                have hbo : BlkOk w ρ (rwOf c.F ρ s.mem) U q (.row e k n f) := h.mem.blk _ (look_mem hl)
                obtain ⟨xs, hown, hx1, hxr⟩ := hbo
                obtain ⟨v', w', r1, r2, r3, r5⟩ := run_append_src (P := P) (w := w) (ty := o.type) hd hi hz his hib hzs hk0 hown hnl hnr hn1 hp.1 hp.2
                refine wp_value (v := v') (w' := w') (by rw [hex, hxv, Sem.run_bind, r1]; rfl) ?_
                exact append_ok h hU (.inr ⟨q, rfl, rfl, hl⟩) ⟨hx1, hxr⟩ hown.1 ⟨hn1, hnrel⟩ r2 r3 r5 o.dst
              · cases hs
            · rename_i q k2 oo b hx
              split at hs
              · rename_i e' k' n f hl
                cases hb : ((Nat.beq e e' && Nat.beq k k') && (Nat.beq k k2 && Nat.beq oo 0)) <;> simp only [hb, cond_true, cond_false, fin, reduceCtorEq, Option.some.injEq, Prod.mk.injEq] at hs
                obtain ⟨rfl, rfl⟩ := hs
                simp only [Bool.and_eq_true] at hb
                obtain rfl : e = e' := Nat.eq_of_beq_eq_true hb.1.1
                obtain rfl : k = k' := Nat.eq_of_beq_eq_true hb.1.2
                obtain rfl : k = k2 := Nat.eq_of_beq_eq_true hb.2.1
                obtain rfl : oo = 0 := Nat.eq_of_beq_eq_true hb.2.2
                have hxr := h.ev x
                rw [hx] at hxr
                obtain ⟨v, w', hrun, hsim, hrel⟩ := appendPart_ok (ty' := o.type) h (hT _ _ hty) htag hxr hl hp (h.ev y) hsrc2
                refine wp_value (v := v) (w' := w') (by rw [hex, ← hy, Sem.run_bind, hrun]; rfl) ?_
                exact ⟨ρ, (hsim.put (Keep.refl _ _) hrel o.dst).more⟩
              · cases hs
            · cases hs
          · cases hs
        · cases hs
      · cases hs
    · rename_i t x y ho
      split at hs
      · rename_i k1 l k2 cp ty hx hy hty
        split at hs
        · rename_i el k by_ isb htag
          split at hs
          · rename_i te hte
            cases hb : (closedL te.zero && Nat.beq (len te.zero) k) <;> simp only [hb, cond_true, cond_false, fin, reduceCtorEq, Option.some.injEq, Prod.mk.injEq] at hs
            obtain ⟨rfl, rfl⟩ := hs
            simp only [Bool.and_eq_true] at hb
            have hxv := h.ev x
            have hyv := h.ev y
            rw [hx] at hxv
            rw [hy] at hyv
            obtain ⟨v, w', hrun, hsim⟩ := makeSlice_ok h hU (hT _ _ hty) htag (hT _ _ hte) hb.1 (by rw [← len_eq]; exact Nat.eq_of_beq_eq_true hb.2) (kl := k1) (kc := k2) hp o.dst
            exact wp_value (v := v) (w' := w') (by simp only [execOp, ho, hxv.eq_int, hyv.eq_int, Sem.run_bind, hrun]; rfl) hsim
          · cases hs
        · cases hs
      · cases hs
    · rename_i t parts ho
      split at hs
      · rename_i ty hty hparts
        split at hs
        · rename_i e k by_ isb htag
          simp only [fin, Option.some.injEq, Prod.mk.injEq] at hs
          obtain ⟨rfl, rfl⟩ := hs
          obtain ⟨_, d, _, _, hd, _, _, _, _, _, _, _, _, hTT⟩ := hT _ _ hty
          rw [htag] at hTT
          obtain ⟨rfl, hk0, _, ii, z, hi, his, hib, hz, hzs⟩ := hTT
          obtain rfl : parts = #[] := by rw [← Array.toArray_toList (xs := parts), hparts]
          have hrun : (Instr.buildSlice t 0 #[]).run P w = .ok (.slice (some ⟨w.heap.size, 0, none⟩) 0 0) (w.alloc (.cells #[] e)) := by
            have e0 : (Array.range 0).map (fun _ => (default : Value)) = #[] := by simp [Array.range_zero']
            simp [Instr.buildSlice, run_underlying hd, run_sizeOf hi, Instr.fill, newRow, e0]
          have hown : ownsR (w.alloc (.cells #[] e)) e k (.slice (some ⟨w.heap.size, 0, none⟩) 0 0) 0 [] :=
            ⟨by simp, .inl ⟨⟨_, rfl⟩, rfl⟩⟩
          have hnew : ∀ g, blkNo (.slice (some ⟨w.heap.size, 0, none⟩) 0 0) = some g → w.heap.size ≤ g := fun g hg => by
            rw [blkNo_zero] at hg; cases hg
          refine wp_value (v := .slice (some ⟨w.heap.size, 0, none⟩) 0 0) (w' := w.alloc (.cells #[] e)) (by
            have e0 : (#[] : Array (Nat × Operand)).map (fun (x : Nat × Operand) => (x.1, a.eval x.2)) = #[] := by simp
            simp only [execOp, ho, Sem.run_bind]
            rw [e0, hrun]
            rfl) ?_
          refine ⟨_, h.add hU (Ext.alloc w (.cells #[] e)) (b := .row e k 0 fun _ _ => .any) hnew ⟨[], by rw [updK_same]; exact hown, (fun u hu => by cases hu), (fun i j u hi => absurd hi (by omega))⟩ ?_ o.dst⟩
          have := Rel.own (w := w.alloc (.cells #[] e)) (ρ := updK ρ (base + i) (.slice (some ⟨w.heap.size, 0, none⟩) 0 0)) (rw := rwOf c.F (updK ρ (base + i) (.slice (some ⟨w.heap.size, 0, none⟩) 0 0)) (ins s.mem (base + i) (.row e k 0 fun _ _ => .any)))
            (N := withK U (base + i)) (base + i) (.inr rfl) (by rw [updK_same]; rfl)
          rwa [updK_same] at this
        · cases hs
      · cases hs
    · rename_i f args ts ho
      rw [← ho] at hs
      split at hs
      · rename_i pp r hpure
        split at hs
        · rename_i r' b hcl
          simp only [fin, Option.some.injEq, Prod.mk.injEq] at hs
          obtain ⟨rfl, rfl⟩ := hs
          refine pureOp_sound hT hG ⟨_, hU⟩ h.mem (hgl ▸ h.gl) (fun x _ => h.ev x) hpure hp fun v w' hext hv _ => ?_
          have h0 := hv (base + i) hU
          rw [hcl] at h0
          obtain ⟨x, q1, q2, q3⟩ := h0
          refine ⟨_, h.add hU hext q1 q3 ?_ o.dst⟩
          have hrw : rwOf c.F (updK ρ (base + i) x) (ins s.mem (base + i) b) = fun g => rwOf c.F ρ s.mem g ∨ blkNo x = some g := funext fun g => propext (rwOf_add h.mem.key hU x b g)
          rw [hrw]
          exact q2
        · rename_i r' hcl
          simp only [fin, Option.some.injEq, Prod.mk.injEq] at hs
          obtain ⟨rfl, rfl⟩ := hs
          refine pureOp_sound hT hG ⟨_, hU⟩ h.mem (hgl ▸ h.gl) (fun x _ => h.ev x) hpure hp fun v w' hext hv _ => ?_
          have h0 := hv (base + i) hU
          rw [hcl] at h0
          exact ⟨ρ, (h.put hext h0 o.dst).more⟩
      · cases hs
    · rename_i n1 n2 n3 n4 n45 n5 n6
      split at hs
      · rename_i pp r hpure
        simp only [fin, Option.some.injEq, Prod.mk.injEq] at hs
        obtain ⟨rfl, rfl⟩ := hs
        have hnc : notCall o.op = true := by
          unfold notCall
          split
          · rename_i f args ts ho
            exact absurd ho (n6 f args ts)
          · rfl
        refine pureOp_sound hT hG ⟨_, hU⟩ h.mem (hgl ▸ h.gl) (fun x _ => h.ev x) hpure hp fun v w' hext hv hvv => ?_
        exact ⟨ρ, (h.put hext (hvv hnc) o.dst).more⟩
      · cases hs
end
end Go.Vd
