/- A transaction's step. -/
import Derived.Test.YtcjogfdlpoablaaDoorVdC2
set_option linter.unusedVariables false
set_option linter.unusedSimpArgs false
set_option maxRecDepth 100000
set_option maxHeartbeats 8000000
namespace Go.Vd
open Go.Proofs
def eD : En Dl := fun A x => [.int .i64 (A.ti fun _ => (x ()).k), .str (A.ts fun _ => (x ()).pan), .int .u64 (A.ti fun _ => (x ()).am), .int .u32 (A.ti fun _ => (x ()).s), .str (A.ts fun _ => (x ()).r), .str (A.ts fun _ => (x ()).code)]
theorem inj_eD : Inj eD 6 := fun x y h => by
  obtain ⟨s0, a0, b0⟩ := h 0 (by omega)
  obtain ⟨s1, a1, b1⟩ := h 1 (by omega)
  obtain ⟨s2, a2, b2⟩ := h 2 (by omega)
  obtain ⟨s3, a3, b3⟩ := h 3 (by omega)
  obtain ⟨s4, a4, b4⟩ := h 4 (by omega)
  obtain ⟨s5, a5, b5⟩ := h 5 (by omega)
  have a0 : Ceq s0 (.int .i64 x.k) := a0
  have b0 : Ceq s0 (.int .i64 y.k) := b0
  have a1 : Ceq s1 (.str x.pan) := a1
  have b1 : Ceq s1 (.str y.pan) := b1
  have a2 : Ceq s2 (.int .u64 x.am) := a2
  have b2 : Ceq s2 (.int .u64 y.am) := b2
  have a3 : Ceq s3 (.int .u32 x.s) := a3
  have b3 : Ceq s3 (.int .u32 y.s) := b3
  have a4 : Ceq s4 (.str x.r) := a4
  have b4 : Ceq s4 (.str y.r) := b4
  have a5 : Ceq s5 (.str x.code) := a5
  have b5 : Ceq s5 (.str y.code) := b5
  rw [Ceq.int] at a0 b0 a2 b2 a3 b3
  rw [Ceq.str] at a1 b1 a4 b4 a5 b5
  subst a0 a1 a2 a3 a4 a5
  cases x
  cases y
  simp at b0 b1 b2 b3 b4 b5
  simp only [Dl.mk.injEq]
  exact ⟨b0, b1, b2, b3, b4, b5⟩
theorem cell_eD (d : Dl) : ∀ j, j < 6 → Ceq (getAt [SV.int .i64 d.k, SV.str d.pan, SV.int .u64 d.am, SV.int .u32 d.s, SV.str d.r, SV.str d.code] j) (getAt (eD std fun _ => d) j) := by
  intro j hj
  rcases (show j = 0 ∨ j = 1 ∨ j = 2 ∨ j = 3 ∨ j = 4 ∨ j = 5 by omega) with rfl | rfl | rfl | rfl | rfl | rfl <;> exact .refl _
structure Stp where
  e : Ent
  a : List Dl
  i : List Dl
  t : Int
  rc : Bool
  deriving DecidableEq
def S0 : Stp := ⟨E0, [], [], 0, false⟩
def tA (d : Dl) (c : List UInt8) : Dl := ⟨2, [], 0, d.s, d.r, c⟩
def tU (d : Dl) (c : List UInt8) : Dl := ⟨4, [], 0, d.s, d.r, c⟩
def tI (k : Int) (e : Ent) (d : Dl) : Dl := ⟨k, e.pan, e.am, d.s, d.r, []⟩
def rev (e : Ent) (c : List UInt8) (z : Int) : Ent := { e with st := 4, code := c, ca := z }
def oddE (e : Ent) (d : Dl) : Bool := decide (¬d.pan = e.pan) || decide (¬d.am = e.am)
def stAsk (e : Ent) (d : Dl) : Stp :=
  if e = E0 then ⟨⟨d.s, d.r, 1, d.pan, d.am, [], 0, 0⟩, [], [⟨1, d.pan, d.am, d.s, d.r, []⟩], 1, false⟩
  else if oddE e d = true then ⟨e, [tA d [57, 52]], [], 0, false⟩
  else if e.st = 1 then ⟨e, [], [], 0, false⟩ else ⟨e, [tA d e.code], [], 0, false⟩
def stAns (e : Ent) (d : Dl) : Stp :=
  if e.st = 1 then ⟨{ e with st := if d.code = [48, 48] then 2 else 3, code := d.code }, [tA d d.code], [], 2, false⟩ else ⟨e, [], [], 0, false⟩
def stUndo (e : Ent) (d : Dl) : Stp :=
  if e = E0 then ⟨e, [tU d [50, 53]], [], 0, false⟩
  else if oddE e d = true then ⟨e, [tU d [57, 52]], [], 0, false⟩
  else if e.st = 1 then ⟨rev e [49, 55] 2, [tA d [49, 55], tU d [48, 48]], [tI 5 e d], 1, false⟩
  else if e.st = 2 then ⟨rev e e.code 2, [tU d [48, 48]], [tI 5 e d], 1, false⟩
  else ⟨e, [tU d [48, 48]], [], 0, false⟩
def stTime (e : Ent) (d : Dl) (n : Int) : Stp :=
  if e.st = 1 then ⟨rev e [54, 56] 1, [tA d [54, 56]], [tI 5 e d], 1, false⟩
  else if e.st = 4 then (if e.tr < n then ⟨{ e with tr := e.tr + 1 }, [], [tI 6 e d], 1, false⟩ else ⟨{ e with st := 6 }, [], [], 0, true⟩)
  else ⟨e, [], [], 0, false⟩
def stAck (e : Ent) : Stp :=
  if e.st = 4 then ⟨{ e with st := 5 }, [], [], 2, false⟩ else if e.st = 6 then ⟨{ e with st := 5 }, [], [], 0, false⟩ else ⟨e, [], [], 0, false⟩
def stpOk (e : Ent) (v : Int) (d : Dl) (n : Int) : Bool := vR v d && (rF e d.s d.r && (decide (0 ≤ n) && decide (n ≤ 16)))
def stpK (e : Ent) (v : Int) (d : Dl) (n : Int) : Stp := if v = 1 then stAsk e d else if v = 2 then stAns e d else if v = 3 then stUndo e d else if v = 4 then stTime e d n else stAck e
def stp (e : Ent) (v : Int) (d : Dl) (n : Int) : Stp := if stpOk e v d n = true then stpK e v d n else S0
def stpE (e : Ent) (v : Int) (d : Dl) (n : Int) : Int := if stpOk e v d n = true then 0 else 1
theorem stp_yes {e : Ent} {v : Int} {d : Dl} {n : Int} (h : ((vR v d = true ∧ rF e d.s d.r = true) ∧ 0 ≤ n) ∧ n ≤ 16) : stp e v d n = stpK e v d n ∧ stpE e v d n = 0 := by
  have hk : stpOk e v d n = true := by unfold stpOk; rw [h.1.1.1, h.1.1.2, decide_eq_true h.1.2, decide_eq_true h.2]; rfl
  exact ⟨if_pos hk, if_pos hk⟩
theorem stp_no {e : Ent} {v : Int} {d : Dl} {n : Int} (h : ((vR v d = false ∨ rF e d.s d.r = false) ∨ n < 0) ∨ 16 < n) : stp e v d n = S0 ∧ stpE e v d n = 1 := by
  have hk : ¬stpOk e v d n = true := by
    intro hk
    unfold stpOk at hk
    simp only [Bool.and_eq_true, decide_eq_true_eq] at hk
    rcases h with ((h | h) | h) | h
    · rw [h] at hk; cases hk.1
    · rw [h] at hk; cases hk.2.1
    · omega
    · omega
  exact ⟨if_neg hk, if_neg hk⟩
theorem eE0 {s st am tr ca : Int} {r pan code : List UInt8} (h : s = 0 ∧ r = [] ∧ st = 0 ∧ pan = [] ∧ am = 0 ∧ code = [] ∧ tr = 0 ∧ ca = 0) : (⟨s, r, st, pan, am, code, tr, ca⟩ : Ent) = E0 := by
  obtain ⟨rfl, rfl, rfl, rfl, rfl, rfl, rfl, rfl⟩ := h; rfl
theorem eE1 {s st am tr ca : Int} {r pan code : List UInt8} (h : s = 0 → r = [] → st = 0 → pan = [] → am = 0 → code = [] → tr = 0 → ¬ca = 0) : ¬(⟨s, r, st, pan, am, code, tr, ca⟩ : Ent) = E0 := by
  intro e
  simp only [E0, Ent.mk.injEq] at e
  exact h e.1 e.2.1 e.2.2.1 e.2.2.2.1 e.2.2.2.2.1 e.2.2.2.2.2.1 e.2.2.2.2.2.2.1 e.2.2.2.2.2.2.2
theorem eq1D {L : List Dl} {k am s : Int} {pan r code : List UInt8} (h : L = [⟨k, pan, am, s, r, code⟩]) : eqrS L.length 6 (lstS [[SV.int IntKind.i64 k, SV.str pan, SV.int IntKind.u64 am, SV.int IntKind.u32 s, SV.str r, SV.str code]]) (rowF eD ⟨0, [], 0, 0, [], []⟩ std fun _ => L) := by
  subst h
  exact (Reps.one (cell_eD ⟨k, pan, am, s, r, code⟩)).eqr
theorem eq2D {L : List Dl} {k am s k' am' s' : Int} {pan r code pan' r' code' : List UInt8} (h : L = [⟨k, pan, am, s, r, code⟩, ⟨k', pan', am', s', r', code'⟩]) :
    eqrS L.length 6 (catS 1 (lstS [[SV.int IntKind.i64 k, SV.str pan, SV.int IntKind.u64 am, SV.int IntKind.u32 s, SV.str r, SV.str code]]) (lstS [[SV.int IntKind.i64 k', SV.str pan', SV.int IntKind.u64 am', SV.int IntKind.u32 s', SV.str r', SV.str code']])) (rowF eD ⟨0, [], 0, 0, [], []⟩ std fun _ => L) := by
  subst h
  exact ((Reps.one (cell_eD ⟨k, pan, am, s, r, code⟩)).cat (Reps.one (cell_eD ⟨k', pan', am', s', r', code'⟩))).eqr
theorem rF_tr {e : Ent} {s : Int} {r : List UInt8} (h : rF e s r = true) (h4 : e.st = 4) : 0 ≤ e.tr ∧ e.tr ≤ 16 := by
  unfold rF at h
  simp only [Bool.or_eq_true, Bool.and_eq_true, decide_eq_true_eq] at h
  rcases h with h | h
  · rw [h] at h4; cases h4
  · have h1 := h.1
    unfold eR at h1
    simp only [Bool.and_eq_true] at h1
    have h2 := h1.2.2.2.2
    unfold eSt at h2
    rw [if_neg (by omega), if_neg (by omega), if_neg (by omega), if_pos (.inl h4)] at h2
    unfold tuR at h2
    simp only [Bool.and_eq_true, decide_eq_true_eq] at h2
    exact h2.2.2
noncomputable def iC : Nat → Option Func := addI 108 Tryd.f108 (addI 151 Tryd.f151 (addI 152 Tryd.f152 (addI 153 Tryd.f153 (addI 154 Tryd.f154 (addI 155 Tryd.f155 (addI 171 Tryd.f171 (addI 172 Tryd.f172 (addI 173 Tryd.f173 (addI 174 Tryd.f174 (addI 175 Tryd.f175 (addI 176 Tryd.f176 (addI 177 Tryd.f177 noI))))))))))))
theorem iC_ok : InOk Tryd.prog iC := addI_ok (addI_ok (addI_ok (addI_ok (addI_ok (addI_ok (addI_ok (addI_ok (addI_ok (addI_ok (addI_ok (addI_ok (addI_ok noI_ok Tryd.func177 (by kernel_rfl)) Tryd.func176 (by kernel_rfl)) Tryd.func175 (by kernel_rfl)) Tryd.func174 (by kernel_rfl)) Tryd.func173 (by kernel_rfl)) Tryd.func172 (by kernel_rfl)) Tryd.func171 (by kernel_rfl)) Tryd.func155 (by kernel_rfl)) Tryd.func154 (by kernel_rfl)) Tryd.func153 (by kernel_rfl)) Tryd.func152 (by kernel_rfl)) Tryd.func151 (by kernel_rfl)) Tryd.func108 (by kernel_rfl)
def stepS (A : Ar) (S : Unit → Stp) : SV := .agg [.int .u32 (A.ti fun _ => (S ()).e.s), .str (A.ts fun _ => (S ()).e.r), .int .i64 (A.ti fun _ => (S ()).e.st), .str (A.ts fun _ => (S ()).e.pan), .int .u64 (A.ti fun _ => (S ()).e.am), .str (A.ts fun _ => (S ()).e.code), .int .i64 (A.ti fun _ => (S ()).e.tr), .int .i64 (A.ti fun _ => (S ()).e.ca),
  rowS eD D0 6 A (fun _ => (S ()).a), rowS eD D0 6 A (fun _ => (S ()).i), .int .i64 (A.ti fun _ => (S ()).t), .bool (A.tb fun _ => (S ()).rc)]
theorem good_cDo (s st am tr ca v k dam ds n : Int) (r pan code dpan dr dcode : List UInt8) (hp : pan.length ≤ 100000) (hcc : code.length ≤ 1000000) (hdp : dpan.length ≤ 100000) (hdr : dr.length ≤ 1000000) (hdc : dcode.length ≤ 1000000) : GoodP Tryd.prog gl0 54 [.agg [.int .u32 s, .str r, .int .i64 st, .str pan, .int .u64 am, .str code, .int .i64 tr, .int .i64 ca], .agg [.int .i64 v, .int .i64 k, .str dpan, .int .u64 dam, .int .u32 ds, .str dr, .str dcode], .int .i64 n] (.tup [stepS std fun _ => stp ⟨s, r, st, pan, am, code, tr, ca⟩ v ⟨k, dpan, dam, ds, dr, dcode⟩ n, .int .i64 (std.ti fun _ => stpE ⟨s, r, st, pan, am, code, tr, ca⟩ v ⟨k, dpan, dam, ds, dr, dcode⟩ n)]) := by
  refine fn_sound' (T := seatT) (G := gc4) (X := noX) seatT_ok gc4_ok noX_ok iC_ok mixed Tryd.func54 (.none) (fun A => [.agg [.int .u32 s, .str r, .int .i64 st, .str pan, .int .u64 am, .str code, .int .i64 tr, .int .i64 ca], .agg [.int .i64 v, .int .i64 k, .str dpan, .int .u64 dam, .int .u32 ds, .str dr, .str dcode], .int .i64 n]) (fun A => .tup [stepS A fun _ => stp ⟨s, r, st, pan, am, code, tr, ca⟩ v ⟨k, dpan, dam, ds, dr, dcode⟩ n, .int .i64 (A.ti fun _ => stpE ⟨s, r, st, pan, am, code, tr, ca⟩ v ⟨k, dpan, dam, ds, dr, dcode⟩ n)]) fun A hA => ?_
  cbv
  repeat' (first | with_reducible exact True.intro | with_reducible exact dr_ok hA (by kernel_rfl) | with_reducible refine And.intro ?_ ?_ | (intro hc; cbv))
  all_goals first
    | (refine ⟨⟨Unit, fun _ _ => [], fun _ _ => [], fun _ => 0, false⟩, ⟨(), by (cbv; subst hA; simp [std_add, std_sub, std_mul, std_quo, std_rem, std_band, std_bor, std_bxor, std_shl, std_shr, std_eq, std_ne, std_lt, std_le, std_conv, std_not, std_beq, std_bne, std_ite, std_want, std_and2, std_sadd, std_seq, std_sne, std_slt, std_sle, std_sgt, std_sge, std_slen, std_sget, std_scut, std_ofNat, std_toNat, std_nsub, std_nadd, std_lenOf, std_nz, std_nneg, std_inb, std_upto, std_slt63, std_grow, std_imp, std_impN, std_tr, std_tb, std_ti, std_ts, std_tn, std_tp, std_nmin, std_makes, std_room, std_zeros, std_nilq, std_notq, std_eqi, std_eqn, std_eqb, std_eqs, std_eqv, std_cat, std_lst, std_rset, std_rcopy, std_shift, std_eqr, std_strOf, std_bytesOf, std_isB, std_zOf, zOf_int, std_isI, isI_int, std_getL, std_nmul, std_sOf, sOf_str, std_isS, isS_str])⟩, fun _ => ?_⟩
       cbv
       repeat' (first | with_reducible exact True.intro | with_reducible exact dr_ok hA (by kernel_rfl) | with_reducible refine And.intro ?_ ?_ | (intro hc; cbv)))
    | skip
  all_goals (subst hA; try simp [std_add, std_sub, std_mul, std_quo, std_rem, std_band, std_bor, std_bxor, std_shl, std_shr, std_eq, std_ne, std_lt, std_le, std_conv, std_not, std_beq, std_bne, std_ite, std_want, std_and2, std_sadd, std_seq, std_sne, std_slt, std_sle, std_sgt, std_sge, std_slen, std_sget, std_scut, std_ofNat, std_toNat, std_nsub, std_nadd, std_lenOf, std_nz, std_nneg, std_inb, std_upto, std_slt63, std_grow, std_imp, std_impN, std_tr, std_tb, std_ti, std_ts, std_tn, std_tp, std_nmin, std_makes, std_room, std_zeros, std_nilq, std_notq, std_eqi, std_eqn, std_eqb, std_eqs, std_eqv, std_cat, std_lst, std_rset, std_rcopy, std_shift, std_eqr, std_strOf, std_bytesOf, std_isB, std_zOf, zOf_int, std_isI, isI_int, std_getL, std_nmul, std_sOf, sOf_str, std_isS, isS_str] at *)
  all_goals first
    | exact ⟨hdp, hdr, hdc⟩
    | (intro h; exact ⟨h, hp, hcc⟩)
    | (have hq : ((vR v ⟨k, dpan, dam, ds, dr, dcode⟩ = false ∨ rF ⟨s, r, st, pan, am, code, tr, ca⟩ ds dr = false) ∨ n < 0) ∨ 16 < n := by assumption
       have h1 := (stp_no (e := ⟨s, r, st, pan, am, code, tr, ca⟩) (d := ⟨k, dpan, dam, ds, dr, dcode⟩) (v := v) (n := n) hq).1
       have h2 := (stp_no (e := ⟨s, r, st, pan, am, code, tr, ca⟩) (d := ⟨k, dpan, dam, ds, dr, dcode⟩) (v := v) (n := n) hq).2
       first
         | exact h2.symm
         | (rw [h1]; first | done | rfl))
    | (have hq : ((vR v ⟨k, dpan, dam, ds, dr, dcode⟩ = true ∧ rF ⟨s, r, st, pan, am, code, tr, ca⟩ ds dr = true) ∧ 0 ≤ n) ∧ n ≤ 16 := by assumption
       have h1 := (stp_yes (e := ⟨s, r, st, pan, am, code, tr, ca⟩) (d := ⟨k, dpan, dam, ds, dr, dcode⟩) (v := v) (n := n) hq).1
       have h2 := (stp_yes (e := ⟨s, r, st, pan, am, code, tr, ca⟩) (d := ⟨k, dpan, dam, ds, dr, dcode⟩) (v := v) (n := n) hq).2
       first
         | exact h2.symm
         | (rw [h1]
            clear h1 h2 hp hcc hdp hdr hdc
            try (have h0 : s = 0 ∧ r = [] ∧ st = 0 ∧ pan = [] ∧ am = 0 ∧ code = [] ∧ tr = 0 ∧ ca = 0 := by assumption
                 have hI : ∀ (a b : Stp), (if (⟨s, r, st, pan, am, code, tr, ca⟩ : Ent) = E0 then a else b) = a := fun a b => if_pos (eE0 h0)
                 simp only [stpK, stAsk, stUndo, hI]
                 clear hI)
            try (have h0 : s = 0 → r = [] → st = 0 → pan = [] → am = 0 → code = [] → tr = 0 → ¬ca = 0 := by assumption
                 have hI : ∀ (a b : Stp), (if (⟨s, r, st, pan, am, code, tr, ca⟩ : Ent) = E0 then a else b) = b := fun a b => if_neg (eE1 h0)
                 simp only [stpK, stAsk, stUndo, hI]
                 clear hI h0)
            try (have h4 : n ≤ tr := by assumption
                 have h5 : ¬tr < n := Int.not_lt.2 h4
                 clear h4)
            first
              | (simp [stpK, stAsk, stAns, stUndo, stTime, stAck, oddE, tA, tU, tI, rev, *]; done)
              | (apply eq1D; simp [stpK, stAsk, stAns, stUndo, stTime, stAck, oddE, tA, tU, tI, rev, *]; done)
              | (apply eq2D; simp [stpK, stAsk, stAns, stUndo, stTime, stAck, oddE, tA, tU, tI, rev, *]; done)
              | (have h4 : st = 4 := by assumption
                 have ht := rF_tr (e := ⟨s, r, st, pan, am, code, tr, ca⟩) hq.1.1.2 h4
                 simp only at ht
                 rw [w64 (by omega)]
                 simp [stpK, stAsk, stAns, stUndo, stTime, stAck, oddE, tA, tU, tI, rev, *]; done)
              | trace_state))
    | trace_state
end Go.Vd
