/- Operations that are carried out in the text's order alone. -/
import Derived.Test.YtchbaamaomipfaaVdFrz
import Derived.Test.YtchbaamaomipfaaVdW
set_option linter.unusedVariables false
set_option linter.unusedSimpArgs false
namespace Go.Vd
open Go.RowKit

section
variable {P : Program} {o : Oper} {a : Act} {w : World} {ρ : Nat → Value} {U : Nat → Prop} {c : Ctx} {s : St}

theorem storeRow_ok (h : SimR c U s a w ρ) {t : TypeId} {ty : Ty} (ht : TyOk P t ty) {pv xv : Value} {q k i off e n : Nat} {f : Nat → Nat → SV} {l : List SV} {x0 : SV} (hp : Rel w ρ (rwOf c.F ρ s.mem) U pv (.eptr q k i off))
    (hx : Rel w ρ (rwOf c.F ρ s.mem) U xv x0) (hc : cellsOf x0 = some l) (hcl : closedL l = true) (hl : look s.mem q = some (.row e k n f)) (hlen : l.length = ty.size) (hoff : off + ty.size ≤ k) :
    ∃ w', (Instr.storeAt t pv xv).run P w = .ok () w' ∧ SimR c U { s with mem := upd s.mem q (.row e k n (std.rset f i off l)) } a w' ρ := by
  obtain ⟨c1, c2, c3⟩ := hx.cells hc
  cases hp with
  | eptr _ _ _ _ g n0 c0 hk hρ hi =>
    have hrc := row_cells h.mem hl hρ (by omega)
    obtain ⟨rfl, _⟩ := hrc
    have hpos : 0 < ty.size := by obtain ⟨_, _, _, _, _, _, h0, _⟩ := ht; exact h0
    have hile : (i + 1) * k ≤ n0 * k := Nat.mul_le_mul_right k hi
    rw [Nat.add_mul] at hile
    have hcl' : xv.cells.toList.length = ty.size := by simp; omega
    obtain ⟨cur, hg, hsz, _, m1, m2, m3, m4⟩ := rowWrite (w := w) h.mem hl hρ (by omega) (o := i * k + off) (cs := xv.cells.toList) (by omega) c2 (f' := std.rset f i off l)
      (fun i' j u hi' hj hu hn => by
        have : ¬ (i' = i ∧ off ≤ j ∧ j < off + l.length) := fun ⟨h1, h2, h3⟩ => hn (by subst h1; omega)
        simp only [std, catS, lstS, isBS, rsetS, rcopyS, shiftS, eqrS, strOfS, bytesOfS, if_neg this]
        exact hu)
      (fun i' j u hi' hj hge hu => by
        have hlt : i' * k + j - (i * k + off) < ty.size := by
          have := (List.getElem?_eq_some_iff.1 hu).1
          omega
        have hii : i' = i := by
          rcases Nat.lt_trichotomy i' i with hlt' | rfl | hlt'
          · have : (i' + 1) * k ≤ i * k := Nat.mul_le_mul_right k hlt'
            rw [Nat.add_mul] at this
            omega
          · rfl
          · have : (i + 1) * k ≤ i' * k := Nat.mul_le_mul_right k hlt'
            rw [Nat.add_mul] at this
            omega
        subst hii
        have hin : i' = i' ∧ off ≤ j ∧ j < off + l.length := ⟨rfl, by omega, by omega⟩
        show RelC w (rwOf c.F ρ s.mem) u (if i' = i' ∧ off ≤ j ∧ j < off + l.length then getAt l (j - off) else f i' j)
        rw [if_pos hin]
        rw [getAt_eq, List.getElem?_eq_getElem (by omega)]
        rw [show i' * k + j - (i' * k + off) = j - off by omega] at hu
        exact (c3 (j - off) u _ (by simpa using hu) (List.getElem?_eq_getElem (by omega))).closed (closedL_spec hcl _ (List.getElem_mem _)))
    refine ⟨_, ?_, h.written m1 m2 m3 m4⟩
    obtain ⟨ii, d, z, hii, hd, hs, _⟩ := ht
    have hst := run_store_isC (P := P) g (i * k + off) e xv.cells.toList 0 cur w hg (by omega) c2
    simp only [Nat.add_zero] at hst
    have hne : ¬ xv.cells.size ≠ ii.size := by
      simp only [Array.length_toList] at hcl'
      omega
    simp only [Instr.storeAt, Instr.sureAddr, Sem.run_bind, Sem.run_pure, Result.andThen_ok, storeVar, run_sizeOf hii, if_neg hne, hst]

end
end Go.Vd

