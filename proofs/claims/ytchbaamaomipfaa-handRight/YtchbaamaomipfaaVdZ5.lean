/- Structs that hold structs of plain fields: their equality, cell by cell. -/
import Derived.Test.YtchbaamaomipfaaVdSeat
import Derived.Lib.ItoaNum
import Derived.Test.YtchbaamaomipfaaProg
import GoSem.Core.Float
import Ieee.Arith
import Derived.WalkKit
import Derived.Lib.Walk
import Derived.Laws.Externs
import Derived.Test.YtchbaamaomipfaaVdSimp
set_option linter.unusedVariables false
set_option linter.unusedSimpArgs false
namespace Go.Vd
open Go.RowKit
inductive Plain2 (P : Program) : Nat → List Field → List SV → Prop
  | nil {n} : Plain2 P n [] []
  | int {n f l z k a} (hn : f.name ≠ "_") (ho : f.offset = n) (hd : P.underlying f.type = some (.int k)) (hr : Plain2 P (n + 1) l z) : Plain2 P n (f :: l) (.int k a :: z)
  | bool {n f l z a} (hn : f.name ≠ "_") (ho : f.offset = n) (hd : P.underlying f.type = some .bool) (hr : Plain2 P (n + 1) l z) : Plain2 P n (f :: l) (.bool a :: z)
  | str {n f l z a} (hn : f.name ≠ "_") (ho : f.offset = n) (hd : P.underlying f.type = some .string) (hr : Plain2 P (n + 1) l z) : Plain2 P n (f :: l) (.str a :: z)
  | sub {n f l z z' fs} (hn : f.name ≠ "_") (ho : f.offset = n) (hd : P.underlying f.type = some (.struct fs)) (hs : P.stoodInHeld f.type = false) (hi : (P.info? f.type).map (fun i => i.size) = some z.length)
      (hp : Plain P 0 fs.toList z) (hr : Plain2 P (n + z.length) l z') : Plain2 P n (f :: l) (z ++ z')

theorem shapes_append : ∀ {z z' l : List SV}, shapes (z ++ z') l = true → ∃ l1 l2, l = l1 ++ l2 ∧ l1.length = z.length ∧ shapes z l1 = true ∧ shapes z' l2 = true
  | [], z', l, h => ⟨[], l, rfl, rfl, rfl, h⟩
  | x :: z, z', l, h => by
    cases l with
    | nil => cases x <;> simp [shapes] at h
    | cons y l =>
      cases x <;> cases y <;> simp [shapes] at h
      · obtain ⟨l1, l2, rfl, e, h1, h2⟩ := shapes_append h.2
        exact ⟨_ :: l1, l2, rfl, by simp [e], by simp [shapes, h.1, h1], h2⟩
      · obtain ⟨l1, l2, rfl, e, h1, h2⟩ := shapes_append h
        exact ⟨_ :: l1, l2, rfl, by simp [e], by simp [shapes, h1], h2⟩
      · obtain ⟨l1, l2, rfl, e, h1, h2⟩ := shapes_append h
        exact ⟨_ :: l1, l2, rfl, by simp [e], by simp [shapes, h1], h2⟩
theorem cellsEq_append : ∀ {z l1 m1 l2 m2 : List SV} {r : Bool}, shapes z l1 = true → shapes z m1 = true → cellsEq std (l1 ++ l2) (m1 ++ m2) = some r → ∃ r1 r2, cellsEq std l1 m1 = some r1 ∧ cellsEq std l2 m2 = some r2 ∧ r = (r1 && r2)
  | [], l1, m1, l2, m2, r, hl, hm, h => by
    cases l1 with
    | cons y l => simp [shapes] at hl
    | nil => cases m1 with
      | cons y l => simp [shapes] at hm
      | nil => exact ⟨true, r, rfl, h, rfl⟩
  | x :: z, l1, m1, l2, m2, r, hl, hm, h => by
    cases l1 with
    | nil => cases x <;> simp [shapes] at hl
    | cons y l => cases m1 with
      | nil => cases x <;> simp [shapes] at hm
      | cons y' m =>
        cases x <;> cases y <;> simp [shapes] at hl <;> cases y' <;> simp [shapes] at hm
        all_goals (simp only [List.cons_append, cellsEq] at h ⊢; split at h)
        all_goals first
          | (rename_i r' hr'
             simp only [Option.some.injEq] at h
             subst h
             have hl' : shapes z l = true := by first | exact hl | exact hl.2
             have hm' : shapes z m = true := by first | exact hm | exact hm.2
             obtain ⟨r1, r2, e1, e2, e3⟩ := cellsEq_append hl' hm' hr'
             subst e3
             exact ⟨_, r2, by rw [e1], e2, by simp [std, Bool.and_assoc]⟩)
          | cases h
theorem all2_append : ∀ {xs : List Value} {l1 l2 : List SV}, All2 cellIs xs (l1 ++ l2) → All2 cellIs (xs.take l1.length) l1 ∧ All2 cellIs (xs.drop l1.length) l2
  | xs, [], l2, h => by simpa [All2] using h
  | [], _ :: _, _, h => h.elim
  | x :: xs, y :: l1, l2, h => by
    obtain ⟨h1, h2⟩ := all2_append (l1 := l1) h.2
    exact ⟨⟨h.1, h1⟩, h2⟩
theorem run_part_agg {P : Program} {t : TypeId} {fs : Array Field} (hd : P.underlying t = some (.struct fs)) {k : Nat} (hi : (P.info? t).map (fun i => i.size) = some k) {xs : Array Value} {off : Nat} (w : World) :
    (part t xs off).run P w = .ok (.agg (xs.extract off (off + k))) w := by
  cases h : P.info? t with
  | none => rw [h] at hi; cases hi
  | some i =>
    rw [h] at hi
    simp only [Option.map_some, Option.some.injEq] at hi
    subst hi
    simp [part, run_isAgg hd w, aggDesc, run_sizeOf h]
theorem eqFields_sub {P : Program} (w : World) {D : Nat} {xs ys : Array Value} {f : Field} {fs : List Field} {gs : Array Field} (hn : f.name ≠ "_") (hd : P.underlying f.type = some (.struct gs)) (hs : P.stoodInHeld f.type = false) {k : Nat} (hi : (P.info? f.type).map (fun i => i.size) = some k)
    {b r : Bool} (he : (Op.eqFields (D + 1) (xs.extract f.offset (f.offset + k)) (ys.extract f.offset (f.offset + k)) gs.toList).run P w = .ok b w) (ht : (Op.eqFields (D + 2) xs ys fs).run P w = .ok r w) :
    (Op.eqFields (D + 2) xs ys (f :: fs)).run P w = .ok (b && r) w := by
  have hfo : P.fieldsOf f.type = gs := by simp [Program.fieldsOf, hd]
  have he' : (Op.equalIn (D + 2) f.type (.agg (xs.extract f.offset (f.offset + k))) (.agg (ys.extract f.offset (f.offset + k)))).run P w = .ok b w := by
    rw [run_equalIn_agg w (D + 1) f.type _ _ (by rw [hfo]; exact hd) hs, hfo]
    exact he
  simp only [Op.eqFields, hn, ne_eq, not_false_eq_true, if_true, Sem.run_bind, run_part_agg hd hi, Result.andThen_ok, he', Sem.run_ite]
  cases b
  · simp
  · simpa using ht
theorem run_eqFields_plain2 {P : Program} (w : World) {D : Nat} {xs ys : Array Value} : ∀ {n : Nat} {fs : List Field} {z : List SV}, Plain2 P n fs z → ∀ {l m : List SV} {r : Bool}, shapes z l = true → shapes z m = true →
    All2 cellIs (xs.toList.drop n) l → All2 cellIs (ys.toList.drop n) m → cellsEq std l m = some r → (Op.eqFields (D + 2) xs ys fs).run P w = .ok r w := by
  intro n fs z hp
  induction hp with
  | nil =>
    intro l m r hl hm _ _ h
    cases l with
    | nil => cases m with
      | nil => simp only [cellsEq, Option.some.injEq] at h; subst h; simp [Op.eqFields]
      | cons y m => simp [shapes] at hm
    | cons x l => simp [shapes] at hl
  | @int n f fs z k a hn ho hd hr ih =>
    intro l m r hl hm hx hy h
    match l, m, hl, hm, hx, hy, h with
    | .int k1 a1 :: l, .int k2 a2 :: m, hl, hm, hx, hy, h =>
      simp only [shapes, Bool.and_eq_true] at hl hm
      obtain rfl := kindEq_spec hl.1
      obtain rfl := kindEq_spec hm.1
      match ex : xs.toList.drop n, ey : ys.toList.drop n, hx, hy with
      | .int k3 a3 :: xl, .int k4 a4 :: yl, hx, hy =>
        obtain ⟨⟨rfl, rfl⟩, hx2⟩ := hx
        obtain ⟨⟨rfl, rfl⟩, hy2⟩ := hy
        obtain ⟨hv, hxl⟩ := drop_cons ex
        obtain ⟨hu, hyl⟩ := drop_cons ey
        simp only [cellsEq] at h
        split at h
        · rename_i r' hr'
          cases h
          exact eqFields_cons w hn hd rfl (by rw [ho, ← Array.getElem?_toList]; exact hv) (by rw [ho, ← Array.getElem?_toList]; exact hu) (run_equalIn_int w _ _ _ _ _ _ hd) (ih hl.2 hm.2 (by rw [hxl]; exact hx2) (by rw [hyl]; exact hy2) hr')
        · cases h
  | @bool n f fs z a hn ho hd hr ih =>
    intro l m r hl hm hx hy h
    match l, m, hl, hm, hx, hy, h with
    | .bool a1 :: l, .bool a2 :: m, hl, hm, hx, hy, h =>
      simp only [shapes] at hl hm
      match ex : xs.toList.drop n, ey : ys.toList.drop n, hx, hy with
      | .bool a3 :: xl, .bool a4 :: yl, hx, hy =>
        obtain ⟨rfl, hx2⟩ := hx
        obtain ⟨rfl, hy2⟩ := hy
        obtain ⟨hv, hxl⟩ := drop_cons ex
        obtain ⟨hu, hyl⟩ := drop_cons ey
        simp only [cellsEq] at h
        split at h
        · rename_i r' hr'
          cases h
          exact eqFields_cons w hn hd rfl (by rw [ho, ← Array.getElem?_toList]; exact hv) (by rw [ho, ← Array.getElem?_toList]; exact hu) (run_equalIn_bool' w _ _ _ _ hd) (ih hl hm (by rw [hxl]; exact hx2) (by rw [hyl]; exact hy2) hr')
        · cases h
  | @str n f fs z a hn ho hd hr ih =>
    intro l m r hl hm hx hy h
    match l, m, hl, hm, hx, hy, h with
    | .str a1 :: l, .str a2 :: m, hl, hm, hx, hy, h =>
      simp only [shapes] at hl hm
      match ex : xs.toList.drop n, ey : ys.toList.drop n, hx, hy with
      | .string a3 :: xl, .string a4 :: yl, hx, hy =>
        obtain ⟨rfl, hx2⟩ := hx
        obtain ⟨rfl, hy2⟩ := hy
        obtain ⟨hv, hxl⟩ := drop_cons ex
        obtain ⟨hu, hyl⟩ := drop_cons ey
        simp only [cellsEq] at h
        split at h
        · rename_i r' hr'
          cases h
          refine eqFields_cons w hn hd rfl (by rw [ho, ← Array.getElem?_toList]; exact hv) (by rw [ho, ← Array.getElem?_toList]; exact hu) ?_ (ih hl hm (by rw [hxl]; exact hx2) (by rw [hyl]; exact hy2) hr')
          rw [run_equalIn_string w _ _ _ _ hd]
          simp [std, catS, lstS, isBS, rsetS, rcopyS, shiftS, eqrS, strOfS, bytesOfS, ByteArray.toList_eq]
        · cases h
  | @sub n f fs z z' gs hn ho hd hs hi hp hr ih =>
    intro l m r hl hm hx hy h
    obtain ⟨l1, l2, rfl, el, hl1, hl2⟩ := shapes_append hl
    obtain ⟨m1, m2, rfl, em, hm1, hm2⟩ := shapes_append hm
    obtain ⟨r1, r2, e1, e2, rfl⟩ := cellsEq_append hl1 hm1 h
    obtain ⟨hx1, hx2⟩ := all2_append hx
    obtain ⟨hy1, hy2⟩ := all2_append hy
    rw [el] at hx1 hx2
    rw [em] at hy1 hy2
    rw [List.drop_drop] at hx2 hy2
    refine eqFields_sub w hn hd hs hi ?_ (ih hl2 hm2 (by simpa using hx2) (by simpa using hy2) e2)
    have hex : ∀ a : Array Value, (a.extract f.offset (f.offset + z.length)).toList.drop 0 = (a.toList.drop n).take z.length := fun a => by
      rw [List.drop_zero, Array.toList_extract, ho]
      simp [List.extract]
    exact run_eqFields_plain w hp hl1 hm1 (by rw [hex]; exact hx1) (by rw [hex]; exact hy1) e1

theorem eqOk_plain2 {P : Program} {t : Nat} {fs : Array Field} {z : List SV} (hg : P.eqGuardType P.depth t = false) (ht : P.underlying t = some (.struct fs)) (hs : P.stoodInHeld t = false) (hp : Plain2 P 0 fs.toList z) : EqOk P t z := by
  refine ⟨hg, fun w xs ys l m r hl hm hx hy h => ?_⟩
  have hfo : P.fieldsOf t = fs := by simp [Program.fieldsOf, ht]
  rw [run_equalIn_agg w 9999 t _ _ (by rw [hfo]; exact ht) hs, hfo]
  exact run_eqFields_plain2 w hp hl hm (by simpa using hx) (by simpa using hy) h
end Go.Vd

set_option linter.unusedVariables false
set_option maxRecDepth 100000
namespace Go.Vd
open Go.Proofs

def ty2 : Ty := ⟨false, 1, [.int .i64 0], .int .i64⟩  -- int64
theorem ty2_ok : TyOk Try.prog 2 ty2 := .mk' (.int .i64) [.int .i64 0] (by kernel_rfl) Try.underlying2 (by decide) rfl (fun _ => rfl) rfl rfl rfl rfl
def ty3 : Ty := ⟨false, 1, [.int .i64 0], .int .i64⟩  -- int
theorem ty3_ok : TyOk Try.prog 3 ty3 := .mk' (.int .i64) [.int .i64 0] (by kernel_rfl) Try.underlying3 (by decide) rfl (fun _ => rfl) rfl rfl rfl rfl
def ty4 : Ty := ⟨false, 1, [.bool false], .bool⟩  -- bool
theorem ty4_ok : TyOk Try.prog 4 ty4 := .mk' .bool [.bool false] (by kernel_rfl) Try.underlying4 (by decide) rfl (fun _ => rfl) rfl rfl rfl rfl
def ty22 : Ty := ⟨false, 1, [.flt 0], .flt⟩  -- float64
theorem ty22_ok : TyOk Try.prog 22 ty22 := .mk' (.float .f64) [.float .f64 0] (by kernel_rfl) Try.underlying22 (by decide) rfl (fun _ => rfl) rfl rfl rfl rfl
def ty23 : Ty := ⟨false, 1, [.int .u64 0], .int .u64⟩  -- uint64
theorem ty23_ok : TyOk Try.prog 23 ty23 := .mk' (.int .u64) [.int .u64 0] (by kernel_rfl) Try.underlying23 (by decide) rfl (fun _ => rfl) rfl rfl rfl rfl
def ty25 : Ty := ⟨false, 1, [.cpx 0 0], .other⟩  -- complex128
theorem ty25_ok : TyOk Try.prog 25 ty25 := .mk' _ [.complex .f64 0 0] (by kernel_rfl) Try.underlying25 (by decide) rfl (fun _ => rfl) rfl rfl rfl trivial
def ty27 : Ty := ⟨false, 1, [.int .i64 0], .int .i64⟩  -- api.Errno
theorem ty27_ok : TyOk Try.prog 27 ty27 := .mk' (.int .i64) [.int .i64 0] (by kernel_rfl) Try.underlying27 (by decide) rfl (fun _ => rfl) rfl rfl rfl rfl
def ty39 : Ty := ⟨false, 1, [.int .u32 0], .int .u32⟩  -- uint32
theorem ty39_ok : TyOk Try.prog 39 ty39 := .mk' (.int .u32) [.int .u32 0] (by kernel_rfl) Try.underlying39 (by decide) rfl (fun _ => rfl) rfl rfl rfl rfl
def ty40 : Ty := ⟨false, 1, [.int .i16 0], .int .i16⟩  -- int16
theorem ty40_ok : TyOk Try.prog 40 ty40 := .mk' (.int .i16) [.int .i16 0] (by kernel_rfl) Try.underlying40 (by decide) rfl (fun _ => rfl) rfl rfl rfl rfl
def seatTy : Nat → Option Ty := fun n => match n with
  | 2 => some ty2
  | 3 => some ty3
  | 4 => some ty4
  | 22 => some ty22
  | 23 => some ty23
  | 25 => some ty25
  | 27 => some ty27
  | 39 => some ty39
  | 40 => some ty40
  | _ => none
/-- What stands in the package variables that are known: fields, kinds and sizes; types. -/
def knownL : List Int := [2, 3, 19, 3, 1, 6, 4, 1, 12, 7, 1, 10, 11, 1, 6, 12, 1, 6, 37, 2, 12, 38, 2, 6, 39, 2, 2, 41, 2, 8, 44, 4, 25, 48, 5, 999, 49, 1, 3, 90, 1, 42, 120, 5, 999]
def typesL : List (List UInt8) := [[48, 49, 48, 48], [48, 49, 49, 48], [48, 52, 48, 48], [48, 52, 49, 48], [48, 52, 50, 48], [48, 52, 50, 49], [48, 52, 51, 48]]
def gl0 : Nat → SV := fun g => .val (.pointer (some ⟨g, 0, none⟩))
def seatFl : Nat → Nat → Option Nat := fun t i => match t, i with
  | _, _ => none
def seatT : Tys := { ty := seatTy, gl := gl0, fl := seatFl }
theorem seatTy_ok : ∀ t ty, seatTy t = some ty → TyOk Try.prog t ty := by
  intro t ty h
  unfold seatTy at h
  split at h <;> cases h
  · exact ty2_ok
  · exact ty3_ok
  · exact ty4_ok
  · exact ty22_ok
  · exact ty23_ok
  · exact ty25_ok
  · exact ty27_ok
  · exact ty39_ok
  · exact ty40_ok
theorem seatFl_ok : ∀ t i u, seatFl t i = some u → ∃ (fs : Array Field) (f : Field), Try.prog.underlying t = some (.struct fs) ∧ fs[i]? = some f ∧ f.type = u := by
  intro t i u h
  unfold seatFl at h
  split at h <;> cases h
theorem seatT_ok : TysOk Try.prog seatT := ⟨seatTy_ok, seatFl_ok⟩
theorem mixed : Try.prog.follows .mixedOrders = true := by kernel_rfl
theorem gl0_ok (w : World) (rw : Nat → Prop) : GlOk gl0 w rw := ⟨fun g ρ N => .val _, fun g k f e => by cases e⟩
end Go.Vd

set_option linter.unusedVariables false
set_option linter.unusedSimpArgs false
namespace Go.Vd
open Ieee

theorem log2_mul_pow {V : Nat} (h : V ≠ 0) (e : Nat) : (V * 2 ^ e).log2 = V.log2 + e := by
  have hp : 0 < 2 ^ e := Nat.two_pow_pos e
  have hne : V * 2 ^ e ≠ 0 := Nat.mul_ne_zero h (by omega)
  rw [Nat.log2_eq_iff hne]
  have h1 := Nat.log2_self_le h
  have h2 := @Nat.lt_log2_self V
  refine ⟨by rw [Nat.pow_add]; exact Nat.mul_le_mul_right _ h1, ?_⟩
  rw [show V.log2 + e + 1 = (V.log2 + 1) + e by omega, Nat.pow_add]
  exact Nat.mul_lt_mul_of_pos_right h2 hp
theorem cut_exact (way : Toward) (neg : Bool) (n d : Nat) : way.cut neg (n * 2 ^ d) d = n := by
  unfold Toward.cut
  rcases Nat.eq_zero_or_pos n with rfl | hn
  · simp
    cases way <;> simp
  · have hl : (n * 2 ^ d).log2 = n.log2 + d := log2_mul_pow (by omega) d
    have hm : min d ((n * 2 ^ d).log2 + 2) = d := by rw [hl]; omega
    have hp : 0 < 2 ^ d := Nat.two_pow_pos d
    simp only [hm, Nat.one_shiftLeft, Nat.mul_div_cancel _ hp, Nat.mul_mod_left]
    cases way <;> simp <;> omega
theorem cut_zero (way : Toward) (neg : Bool) (n : Nat) : way.cut neg n 0 = n := by
  have := cut_exact way neg n 0
  simpa using this

/-- The rung of a whole number. -/
def rungOf (V : Nat) : Nat := (V.log2 + 1022) * 4503599627370496 + V * 2 ^ (52 - V.log2)
theorem log2_le {V : Nat} (h0 : V ≠ 0) (hV : V < 9007199254740992) : V.log2 ≤ 52 := by
  have : V.log2 < 53 := (Nat.log2_lt h0).2 (by simpa using hV)
  omega
theorem kept_lo {V : Nat} (h0 : V ≠ 0) (hV : V < 9007199254740992) : 4503599627370496 ≤ V * 2 ^ (52 - V.log2) ∧ V * 2 ^ (52 - V.log2) < 9007199254740992 := by
  have hl := log2_le h0 hV
  have h1 := Nat.log2_self_le h0
  have h2 := @Nat.lt_log2_self V
  constructor
  · have := Nat.mul_le_mul_right (2 ^ (52 - V.log2)) h1
    rw [← Nat.pow_add, show V.log2 + (52 - V.log2) = 52 by omega] at this
    simpa using this
  · have := Nat.mul_lt_mul_of_pos_right h2 (Nat.two_pow_pos (52 - V.log2))
    rw [← Nat.pow_add, show V.log2 + 1 + (52 - V.log2) = 53 by omega] at this
    simpa using this
theorem nearest_whole (s : Bool) {V : Nat} (h0 : V ≠ 0) (hV : V < 9007199254740992) (e : Nat) : double.nearest s (V * 2 ^ e) (-(e : Int)) = double.word s (rungOf V) := by
  have hl := log2_le h0 hV
  obtain ⟨k1, k2⟩ := kept_lo h0 hV
  have hne : V * 2 ^ e ≠ 0 := Nat.mul_ne_zero h0 (by have := Nat.two_pow_pos e; omega)
  have hfb : double.fractionBits = 52 := rfl
  have hlp : double.leastPlace = -1074 := by rfl
  have hbin : double.binade = 4503599627370496 := by rfl
  have hinf : double.infRung = 9218868437227405312 := by rfl
  have hlast : max (-(e : Int) + ((V * 2 ^ e).log2 : Nat) - (double.fractionBits : Nat)) double.leastPlace = (V.log2 : Int) - 52 := by
    rw [log2_mul_pow h0, hfb, hlp]; omega
  unfold Format.nearest
  rw [if_neg hne]
  simp only [hlast]
  have hkept : Toward.even.cut s ((V * 2 ^ e) <<< (-(e : Int) - ((V.log2 : Int) - 52)).toNat) (((V.log2 : Int) - 52) - -(e : Int)).toNat = V * 2 ^ (52 - V.log2) := by
    rcases Nat.lt_or_ge (52 - V.log2) e with hc | hc
    · have e1 : (-(e : Int) - ((V.log2 : Int) - 52)).toNat = 0 := by omega
      have e2 : (((V.log2 : Int) - 52) - -(e : Int)).toNat = e - (52 - V.log2) := by omega
      rw [e1, e2, Nat.shiftLeft_zero]
      have e3 : V * 2 ^ e = (V * 2 ^ (52 - V.log2)) * 2 ^ (e - (52 - V.log2)) := by
        rw [Nat.mul_assoc, ← Nat.pow_add, show 52 - V.log2 + (e - (52 - V.log2)) = e by omega]
      rw [e3, cut_exact]
    · have e1 : (-(e : Int) - ((V.log2 : Int) - 52)).toNat = 52 - V.log2 - e := by omega
      have e2 : (((V.log2 : Int) - 52) - -(e : Int)).toNat = 0 := by omega
      rw [e1, e2, cut_zero, Nat.shiftLeft_eq, Nat.mul_assoc, ← Nat.pow_add, show e + (52 - V.log2 - e) = 52 - V.log2 by omega]
  rw [hkept, hlp, hbin, hinf]
  have e4 : ((V.log2 : Int) - 52 - -1074).toNat = V.log2 + 1022 := by omega
  rw [e4]
  have e5 : min ((V.log2 + 1022) * 4503599627370496 + V * 2 ^ (52 - V.log2)) 9218868437227405312 = rungOf V := by
    unfold rungOf
    generalize V * 2 ^ (52 - V.log2) = K at k1 k2 ⊢
    clear hkept hlast hne
    generalize V.log2 = l at hl ⊢
    clear hlp hbin hinf
    omega
  rw [e5]
theorem read_word (s : Bool) {V : Nat} (h0 : V ≠ 0) (hV : V < 9007199254740992) : double.read (double.word s (rungOf V)) = .number s (V * 2 ^ (52 - V.log2)) (-((52 - V.log2 : Nat) : Int)) := by
  have hl := log2_le h0 hV
  obtain ⟨k1, k2⟩ := kept_lo h0 hV
  have hlp : double.leastPlace = -1074 := by rfl
  have hbin : double.binade = 4503599627370496 := by rfl
  have hinf : double.infRung = 9218868437227405312 := by rfl
  have hsw : double.signWeight = 9223372036854775808 := by rfl
  have hr : rungOf V < 9218868437227405312 ∧ 4503599627370496 ≤ rungOf V := by
    unfold rungOf
    generalize V * 2 ^ (52 - V.log2) = K at k1 k2 ⊢
    generalize V.log2 = l at hl ⊢
    clear hlp hbin hinf hsw
    omega
  have hr0 : rungOf V < 9223372036854775808 := Nat.lt_trans hr.1 (by decide)
  have hneg : (double.word s (rungOf V) / double.signWeight % 2 == 1) = s := by
    unfold Format.word
    rw [hsw]
    cases s
    · simp [Nat.div_eq_of_lt hr0]
    · simp only [if_true]
      rw [Nat.add_div_left _ (by decide : 0 < 9223372036854775808), Nat.div_eq_of_lt hr0]
      rfl
  have hrung : double.word s (rungOf V) % double.signWeight = rungOf V := by
    unfold Format.word
    rw [hsw]
    cases s
    · simp [Nat.mod_eq_of_lt hr0]
    · simp only [if_true]
      rw [Nat.add_mod_left, Nat.mod_eq_of_lt hr0]
  unfold Format.read
  simp only [hneg, hrung]
  rw [if_neg (by rw [hbin]; exact Nat.not_lt.2 hr.2), if_pos (by rw [hinf]; exact hr.1), hbin, hlp]
  obtain ⟨K, hK⟩ : ∃ K, K = V * 2 ^ (52 - V.log2) := ⟨_, rfl⟩
  have hru : rungOf V / 4503599627370496 = V.log2 + 1023 ∧ rungOf V % 4503599627370496 = K - 4503599627370496 := by
    unfold rungOf
    rw [← hK] at k1 k2 ⊢
    clear hneg hrung hr hr0 hlp hbin hinf hsw hK
    generalize V.log2 = l at hl ⊢
    omega
  rw [hru.1, hru.2, ← hK]
  rw [← hK] at k1
  have q1 : 4503599627370496 + (K - 4503599627370496) = K := by omega
  have q2 : (-1074 : Int) + ((V.log2 + 1023 - 1 : Nat) : Int) = -((52 - V.log2 : Nat) : Int) := by omega
  rw [q1, q2]
/-- 2 ^ e, as an integer. -/
def pw (e : Nat) : Int := Int.ofNat (2 ^ e)
theorem pw_pos (e : Nat) : 0 < pw e := by have := Nat.two_pow_pos e; unfold pw; simp only [Int.ofNat_eq_natCast]; omega
/-- The word says the whole number. -/
def isZ (x : Nat) (n : Int) : Prop := ∃ (s : Bool) (e : Nat), double.read x = .number s (n.natAbs * 2 ^ e) (-(e : Int)) ∧ (n < 0 → s = true) ∧ (0 < n → s = false)
theorem read_zero (s : Bool) : double.read (double.word s 0) = .number s 0 (-1074) := by cases s <;> decide
theorem write_isZ (s : Bool) {n : Int} (hn : n.natAbs < 9007199254740992) (e : Nat) (h1 : n < 0 → s = true) (h2 : 0 < n → s = false) : isZ (double.write (.number s (n.natAbs * 2 ^ e) (-(e : Int)))) n := by
  unfold Format.write
  simp only
  rcases Nat.eq_zero_or_pos n.natAbs with h0 | h0
  · rw [h0, Nat.zero_mul]
    obtain ⟨k, hk⟩ : ∃ k : Nat, k = 1074 := ⟨_, rfl⟩
    refine ⟨s, k, ?_, h1, h2⟩
    unfold Format.nearest
    rw [if_pos rfl, read_zero, h0, Nat.zero_mul, hk]
    rfl
  · rw [nearest_whole s (by omega) hn]
    exact ⟨s, _, read_word s (by omega) hn, h1, h2⟩
theorem signed_isZ {s : Bool} {n : Int} {e u : Nat} (h1 : n < 0 → s = true) (h2 : 0 < n → s = false) : signed s (n.natAbs * 2 ^ e) u = n * pw (e + u) := by
  have key : ((n.natAbs * 2 ^ e) <<< u : Nat) = n.natAbs * 2 ^ (e + u) := by rw [Nat.shiftLeft_eq, Nat.mul_assoc, ← Nat.pow_add]
  unfold signed
  rw [key, Int.natCast_mul]
  have hq : ((2 ^ (e + u) : Nat) : Int) = pw (e + u) := rfl
  rw [hq]
  rcases Int.lt_trichotomy n 0 with hn | hn | hn
  · rw [h1 hn, if_pos rfl, ← Int.neg_mul, show -((n.natAbs : Nat) : Int) = n by omega]
  · subst hn; cases s <;> simp
  · rw [h2 hn, if_neg (by simp), show ((n.natAbs : Nat) : Int) = n by omega]
theorem sum_isZ {s t : Bool} {n m : Int} {e d : Nat} (h1 : n < 0 → s = true) (h2 : 0 < n → s = false) (g1 : m < 0 → t = true) (g2 : 0 < m → t = false) :
    ∃ (u : Bool) (q : Nat), Datum.sum (.number s (n.natAbs * 2 ^ e) (-(e : Int))) (.number t (m.natAbs * 2 ^ d) (-(d : Int))) = some (.number u ((n + m).natAbs * 2 ^ q) (-(q : Int))) ∧ (n + m < 0 → u = true) ∧ (0 < n + m → u = false) := by
  have hbase : min (-(e : Int)) (-(d : Int)) = -((max e d : Nat) : Int) := by omega
  have a1 : e + (-(e : Int) - -((max e d : Nat) : Int)).toNat = max e d := by omega
  have a2 : d + (-(d : Int) - -((max e d : Nat) : Int)).toNat = max e d := by omega
  have hp : 0 < pw (max e d) := pw_pos _
  obtain ⟨q, hq⟩ : ∃ q, q = max e d := ⟨_, rfl⟩
  rw [← hq] at hbase a1 a2 hp
  refine ⟨if (n + m) * pw q = 0 then s && t else decide ((n + m) * pw q < 0), q, ?_, ?_, ?_⟩
  · unfold Datum.sum
    simp only [hbase, signed_isZ h1 h2, signed_isZ g1 g2, a1, a2, ← Int.add_mul]
    have hna : ((n + m) * pw q).natAbs = (n + m).natAbs * 2 ^ q := by rw [Int.natAbs_mul]; rfl
    rw [hna]
  · intro h
    have : (n + m) * pw q < 0 := Int.mul_neg_of_neg_of_pos h hp
    rw [if_neg (by intro h0; rw [h0] at this; exact absurd this (by decide)), decide_eq_true this]
  · intro h
    have : 0 < (n + m) * pw q := Int.mul_pos h hp
    rw [if_neg (by intro h0; rw [h0] at this; exact absurd this (by decide)), decide_eq_false (Int.not_lt.2 (Int.le_of_lt this))]
theorem isZ_add {x y : Nat} {n m : Int} (hx : isZ x n) (hy : isZ y m) (hb : (n + m).natAbs < 9007199254740992) : ∃ z, double.add x y = some z ∧ isZ z (n + m) := by
  obtain ⟨s, e, r1, h1, h2⟩ := hx
  obtain ⟨t, d, r2, g1, g2⟩ := hy
  obtain ⟨u, q, r3, k1, k2⟩ := sum_isZ (e := e) (d := d) h1 h2 g1 g2
  refine ⟨_, ?_, write_isZ u hb q k1 k2⟩
  unfold Format.add
  rw [r1, r2, r3]
  rfl
theorem isZ_sub {x y : Nat} {n m : Int} (hx : isZ x n) (hy : isZ y m) (hb : (n - m).natAbs < 9007199254740992) : ∃ z, double.sub x y = some z ∧ isZ z (n - m) := by
  obtain ⟨s, e, r1, h1, h2⟩ := hx
  obtain ⟨t, d, r2, g1, g2⟩ := hy
  have g1' : -m < 0 → (!t) = true := fun h => by rw [g2 (by omega)]; rfl
  have g2' : 0 < -m → (!t) = false := fun h => by rw [g1 (by omega)]; rfl
  obtain ⟨u, q, r3, k1, k2⟩ := sum_isZ (e := e) (d := d) h1 h2 g1' g2'
  rw [Int.natAbs_neg, ← Int.sub_eq_add_neg] at r3
  rw [← Int.sub_eq_add_neg] at k1 k2
  refine ⟨_, ?_, write_isZ u hb q k1 k2⟩
  unfold Format.sub
  rw [r1, r2]
  simp only [Datum.opposite]
  rw [r3]
  rfl
theorem compare_scale (a b : Int) {k : Int} (hk : 0 < k) : compare (a * k) (b * k) = compare a b := by
  have h1 : a * k < b * k ↔ a < b := ⟨fun h => Int.lt_of_mul_lt_mul_right h (by omega), fun h => Int.mul_lt_mul_of_pos_right h hk⟩
  have h2 : a * k = b * k ↔ a = b := ⟨fun h => Int.eq_of_mul_eq_mul_right (by omega) h, fun h => by rw [h]⟩
  simp only [compare, compareOfLessAndEq, h1, h2]
theorem isZ_order {x y : Nat} {n m : Int} (hx : isZ x n) (hy : isZ y m) : double.order x y = some (compare n m) := by
  obtain ⟨s, e, r1, h1, h2⟩ := hx
  obtain ⟨t, d, r2, g1, g2⟩ := hy
  have hbase : min (-(e : Int)) (-(d : Int)) = -((max e d : Nat) : Int) := by omega
  have a1 : e + (-(e : Int) - -((max e d : Nat) : Int)).toNat = max e d := by omega
  have a2 : d + (-(d : Int) - -((max e d : Nat) : Int)).toNat = max e d := by omega
  have hp : 0 < pw (max e d) := pw_pos _
  unfold Format.order Datum.order
  rw [r1, r2]
  simp only [hbase, signed_isZ h1 h2, signed_isZ g1 g2, a1, a2]
  rw [compare_scale _ _ hp]
theorem isZ_fOf {n : Int} (hn : n.natAbs < 9007199254740992) : isZ (FloatKind.f64.nearest n) n := by
  have := write_isZ (decide (n < 0)) hn 0 (fun h => decide_eq_true h) (fun h => decide_eq_false (by omega))
  simpa [FloatKind.nearest, FloatKind.encode, FloatKind.format] using this
theorem isZ_toInt {x : Nat} {n : Int} (hx : isZ x n) : (FloatKind.f64.decode x).toInt .zero = some n := by
  obtain ⟨s, e, r1, h1, h2⟩ := hx
  have : FloatKind.f64.decode x = .number s (n.natAbs * 2 ^ e) (-(e : Int)) := r1
  rw [this]
  unfold Datum.toInt Datum.integral
  have e1 : (-(e : Int)).toNat = 0 := by omega
  have e2 : (- -(e : Int)).toNat = e := by omega
  simp only [e1, e2, Nat.shiftLeft_zero, cut_exact]
  have := signed_isZ (s := s) (e := 0) (u := 0) h1 h2
  rw [Nat.pow_zero, Nat.mul_one, show pw (0 + 0) = 1 from rfl, Int.mul_one] at this
  rw [this]
/-- A word that is a whole number from 0, by what it is held against. -/
theorem read_form {x : Nat} {s : Bool} {m : Nat} {i : Int} (h : double.read x = .number s m i) : i ≤ 0 ∨ 4503599627370496 ≤ m := by
  have hlp : double.leastPlace = -1074 := by rfl
  have hbin : double.binade = 4503599627370496 := by rfl
  unfold Format.read at h
  simp only at h
  split at h
  · cases h; rw [hlp]; left; decide
  · split at h
    · cases h; right; rw [hbin]; exact Nat.le_add_right _ _
    · split at h <;> cases h
theorem isZ_of_form {x : Nat} {s : Bool} {m : Nat} {i : Int} (hr : double.read x = .number s m i) {n : Nat} (hi : i ≤ 0) (hm : m = n * 2 ^ (-i).toNat) (hs : 0 < n → s = false) : isZ x n := by
  refine ⟨s, (-i).toNat, ?_, fun h => absurd h (by omega), fun h => hs (by omega)⟩
  rw [hr, Int.natAbs_natCast, ← hm, show -(((-i).toNat : Nat) : Int) = i by omega]
theorem compare_eq {a b : Int} (h : compare a b = .eq) : a = b := by
  simp only [compare, compareOfLessAndEq] at h
  split at h
  · cases h
  · split at h
    · assumption
    · cases h
theorem compare_lt' {a b : Int} : compare a b = .lt ↔ a < b := by
  simp only [compare, compareOfLessAndEq]
  split
  · simp_all
  · split <;> simp_all
theorem compare_gt' {a b : Int} : compare a b = .gt ↔ b < a := by
  simp only [compare, compareOfLessAndEq]
  split
  · simp; omega
  · split
    · simp; omega
    · simp; omega
theorem compare_eq' {a b : Int} : compare a b = .eq ↔ a = b := ⟨compare_eq, fun h => by subst h; simp [compare, compareOfLessAndEq]⟩
/-- What is equal to a small whole number is that. -/
theorem isZ_of_eq {x y n : Nat} (hy : isZ y n) (hn : n < 4503599627370496) (h : double.order x y = some .eq) : isZ x n := by
  obtain ⟨t, d, r2, g1, g2⟩ := hy
  unfold Format.order at h
  rw [r2] at h
  cases hr : double.read x with
  | nan s f => rw [hr] at h; cases h
  | infinity s => rw [hr] at h; cases s <;> cases h
  | number s m i =>
    rw [hr] at h
    unfold Datum.order at h
    simp only [Option.some.injEq] at h
    have h := compare_eq h
    have hj : ((n : Int).natAbs) = n := Int.natAbs_natCast n
    rw [signed_isZ g1 g2] at h
    rcases read_form hr with hi | hi
    · have hb : min i (-(d : Int)) ≤ 0 := by omega
      obtain ⟨q, hq⟩ : ∃ q : Nat, min i (-(d : Int)) = -(q : Int) := ⟨(-(min i (-(d : Int)))).toNat, by omega⟩
      rw [hq] at h
      have e1 : d + (-(d : Int) - -(q : Int)).toNat = q := by omega
      have e2 : (i - -(q : Int)).toNat = q - (-i).toNat := by omega
      rw [e1, e2] at h
      have hle : (-i).toNat ≤ q := by omega
      have hpos : 0 < 2 ^ (q - (-i).toNat) := Nat.two_pow_pos _
      have hsplit : (2 : Nat) ^ q = 2 ^ (-i).toNat * 2 ^ (q - (-i).toNat) := by rw [← Nat.pow_add, show (-i).toNat + (q - (-i).toNat) = q by omega]
      unfold signed at h
      rw [Nat.shiftLeft_eq] at h
      have hw : ((n : Int)) * pw q = ((n * 2 ^ q : Nat) : Int) := by rw [Int.natCast_mul]; rfl
      rw [hw] at h
      cases s
      · simp only [Bool.false_eq_true, if_false] at h
        have h2 : m * 2 ^ (q - (-i).toNat) = n * 2 ^ q := by omega
        rw [hsplit, ← Nat.mul_assoc] at h2
        exact isZ_of_form hr hi (Nat.eq_of_mul_eq_mul_right hpos h2) (fun _ => rfl)
      · simp only [if_true] at h
        have h2 : m * 2 ^ (q - (-i).toNat) = 0 ∧ n * 2 ^ q = 0 := by omega
        have hn0 : n = 0 := (Nat.mul_eq_zero.1 h2.2).resolve_right (by have := Nat.two_pow_pos q; omega)
        have hm0 : m = 0 := (Nat.mul_eq_zero.1 h2.1).resolve_right (by omega)
        subst hn0
        exact isZ_of_form hr hi (by rw [hm0]; simp) (fun h => absurd h (by omega))
    · rcases Int.lt_or_le 0 i with hi0 | hi0
      · exfalso
        have e1 : min i (-(d : Int)) = -(d : Int) := by omega
        rw [e1] at h
        have e2 : d + (-(d : Int) - -(d : Int)).toNat = d := by omega
        obtain ⟨j, hj2⟩ : ∃ j : Nat, (i - -(d : Int)).toNat = d + j := ⟨i.toNat, by omega⟩
        rw [e2, hj2] at h
        unfold signed at h
        rw [Nat.shiftLeft_eq] at h
        have hw : ((n : Int)) * pw d = ((n * 2 ^ d : Nat) : Int) := by rw [Int.natCast_mul]; rfl
        rw [hw] at h
        have hge : m * 2 ^ d ≤ m * 2 ^ (d + j) := Nat.mul_le_mul_left _ (Nat.pow_le_pow_right (by decide) (by omega))
        have hlt : n * 2 ^ d < m * 2 ^ d := Nat.mul_lt_mul_of_pos_right (by omega) (Nat.two_pow_pos d)
        cases s
        · simp only [Bool.false_eq_true, if_false] at h
          omega
        · simp only [if_true] at h
          omega
      · have hb : min i (-(d : Int)) ≤ 0 := by omega
        obtain ⟨q, hq⟩ : ∃ q : Nat, min i (-(d : Int)) = -(q : Int) := ⟨(-(min i (-(d : Int)))).toNat, by omega⟩
        rw [hq] at h
        have e1 : d + (-(d : Int) - -(q : Int)).toNat = q := by omega
        have e2 : (i - -(q : Int)).toNat = q - (-i).toNat := by omega
        rw [e1, e2] at h
        have hpos : 0 < 2 ^ (q - (-i).toNat) := Nat.two_pow_pos _
        have hsplit : (2 : Nat) ^ q = 2 ^ (-i).toNat * 2 ^ (q - (-i).toNat) := by rw [← Nat.pow_add, show (-i).toNat + (q - (-i).toNat) = q by omega]
        unfold signed at h
        rw [Nat.shiftLeft_eq] at h
        have hw : ((n : Int)) * pw q = ((n * 2 ^ q : Nat) : Int) := by rw [Int.natCast_mul]; rfl
        rw [hw] at h
        cases s
        · simp only [Bool.false_eq_true, if_false] at h
          have h2 : m * 2 ^ (q - (-i).toNat) = n * 2 ^ q := by omega
          rw [hsplit, ← Nat.mul_assoc] at h2
          exact isZ_of_form hr hi0 (Nat.eq_of_mul_eq_mul_right hpos h2) (fun _ => rfl)
        · simp only [if_true] at h
          have h2 : m * 2 ^ (q - (-i).toNat) = 0 ∧ n * 2 ^ q = 0 := by omega
          have hn0 : n = 0 := (Nat.mul_eq_zero.1 h2.2).resolve_right (by have := Nat.two_pow_pos q; omega)
          have hm0 : m = 0 := (Nat.mul_eq_zero.1 h2.1).resolve_right (by omega)
          subst hn0
          exact isZ_of_form hr hi0 (by rw [hm0]; simp) (fun h => absurd h (by omega))
end Go.Vd

set_option linter.unusedVariables false
set_option linter.unusedSimpArgs false
namespace Go.Vd
open Ieee
def floorW (x : Nat) : Nat := FloatKind.f64.encode ((FloatKind.f64.decode x).integral .down)
theorem cut_down (n d : Nat) : Toward.down.cut false n d = n / 2 ^ d := by
  unfold Toward.cut
  simp only [Bool.false_and, Bool.toNat_false, Nat.add_zero, Nat.one_shiftLeft]
  rcases Nat.le_total d (n.log2 + 2) with h | h
  · rw [Nat.min_eq_left h]
  · rw [Nat.min_eq_right h]
    have hlt : n < 2 ^ (n.log2 + 2) := Nat.lt_trans Nat.lt_log2_self (Nat.pow_lt_pow_right (by decide) (by omega))
    rw [Nat.div_eq_of_lt hlt, Nat.div_eq_of_lt (Nat.lt_of_lt_of_le hlt (Nat.pow_le_pow_right (by decide) h))]
theorem floor_isZ {x n : Nat} (h : isZ x n) (hn : n < 9007199254740992) : isZ (floorW x) n := by
  obtain ⟨s, e, r1, h1, h2⟩ := h
  have hr : FloatKind.f64.decode x = .number s ((n : Int).natAbs * 2 ^ e) (-(e : Int)) := r1
  unfold floorW
  rw [hr]
  unfold Datum.integral
  have e1 : (-(e : Int)).toNat = 0 := by omega
  have e2 : (- -(e : Int)).toNat = e := by omega
  simp only [e1, e2, Nat.shiftLeft_zero, cut_exact]
  have := write_isZ s (n := (n : Int)) (by rw [Int.natAbs_natCast]; exact hn) 0 h1 h2
  simpa [FloatKind.encode, FloatKind.format] using this
theorem order_lt_bound {x n : Nat} {s : Bool} {m : Nat} {i : Int} {y : Nat} (hr : double.read x = .number s m i) (hy : isZ y n) (h : double.order x y = some .lt) (hs : s = false) (hi : i ≤ 0) : m < n * 2 ^ (-i).toNat := by
  obtain ⟨t, d, r2, g1, g2⟩ := hy
  unfold Format.order at h
  rw [r2, hr] at h
  unfold Datum.order at h
  simp only [Option.some.injEq] at h
  have h := compare_lt'.1 h
  subst hs
  rw [signed_isZ g1 g2] at h
  obtain ⟨q, hq⟩ : ∃ q : Nat, min i (-(d : Int)) = -(q : Int) := ⟨(-(min i (-(d : Int)))).toNat, by omega⟩
  rw [hq] at h
  have e1 : d + (-(d : Int) - -(q : Int)).toNat = q := by omega
  have e2 : (i - -(q : Int)).toNat = q - (-i).toNat := by omega
  rw [e1, e2] at h
  have hpos : 0 < 2 ^ (q - (-i).toNat) := Nat.two_pow_pos _
  have hsplit : (2 : Nat) ^ q = 2 ^ (-i).toNat * 2 ^ (q - (-i).toNat) := by rw [← Nat.pow_add, show (-i).toNat + (q - (-i).toNat) = q by omega]
  unfold signed at h
  rw [Nat.shiftLeft_eq] at h
  have hw : ((n : Int)) * pw q = ((n * 2 ^ q : Nat) : Int) := by rw [Int.natCast_mul]; rfl
  rw [hw] at h
  simp only [Bool.false_eq_true, if_false] at h
  have h2 : m * 2 ^ (q - (-i).toNat) < n * 2 ^ q := by omega
  rw [hsplit, ← Nat.mul_assoc] at h2
  exact Nat.lt_of_mul_lt_mul_right h2
theorem order_far {x n : Nat} {m : Nat} {i : Int} {y : Nat} (hr : double.read x = .number false m i) (hy : isZ y n) (hn : n < 4503599627370496) (hi : 0 < i) (hm : 4503599627370496 ≤ m) : double.order x y ≠ some .lt := by
  intro h
  obtain ⟨t, d, r2, g1, g2⟩ := hy
  unfold Format.order at h
  rw [r2, hr] at h
  unfold Datum.order at h
  simp only [Option.some.injEq] at h
  have h := compare_lt'.1 h
  rw [signed_isZ g1 g2] at h
  have e1 : min i (-(d : Int)) = -(d : Int) := by omega
  rw [e1] at h
  have e2 : d + (-(d : Int) - -(d : Int)).toNat = d := by omega
  obtain ⟨j, hj2⟩ : ∃ j : Nat, (i - -(d : Int)).toNat = d + j := ⟨i.toNat, by omega⟩
  rw [e2, hj2] at h
  unfold signed at h
  rw [Nat.shiftLeft_eq] at h
  have hw : ((n : Int)) * pw d = ((n * 2 ^ d : Nat) : Int) := by rw [Int.natCast_mul]; rfl
  rw [hw] at h
  have hge : m * 2 ^ d ≤ m * 2 ^ (d + j) := Nat.mul_le_mul_left _ (Nat.pow_le_pow_right (by decide) (by omega))
  have hlt : n * 2 ^ d < m * 2 ^ d := Nat.mul_lt_mul_of_pos_right (by omega) (Nat.two_pow_pos d)
  simp only [Bool.false_eq_true, if_false] at h
  omega
/-- From 0 to below a small number, and equal to itself made whole: a whole number. -/
theorem isZ_of_floor {x z y n : Nat} (hz : isZ z (0 : Nat)) (hy : isZ y n) (hn : n < 4503599627370496) (h0 : double.order x z = some .gt ∨ double.order x z = some .eq) (h1 : double.order x y = some .lt) (h2 : double.order x (floorW x) = some .eq) : ∃ k : Nat, k < n ∧ isZ x k := by
  rcases h0 with h0 | h0
  · cases hr : double.read x with
    | nan s f => unfold Format.order at h0; rw [hr] at h0; cases h0
    | infinity s =>
      unfold Format.order at h0 h1
      obtain ⟨t, d, r2, _⟩ := hz
      obtain ⟨t2, d2, r3, _⟩ := hy
      rw [hr, r2] at h0
      rw [hr, r3] at h1
      cases s
      · cases h1
      · cases h0
    | number s m i =>
      have hs : s = false := by
        cases s
        · rfl
        · exfalso
          unfold Format.order at h0
          obtain ⟨t, d, r2, g1, g2⟩ := hz
          rw [hr, r2] at h0
          unfold Datum.order at h0
          simp only [Option.some.injEq] at h0
          have h0 := compare_gt'.1 h0
          rw [signed_isZ g1 g2] at h0
          unfold signed at h0
          simp only [if_true, Int.natCast_zero, Int.zero_mul] at h0
          have hnn := Int.natCast_nonneg (m <<< (i - min i (-(d : Int))).toNat)
          omega
      subst hs
      have hi : i ≤ 0 := by
        rcases read_form hr with hi | hi
        · exact hi
        · rcases Int.lt_or_le 0 i with hi0 | hi0
          · exact absurd h1 (order_far hr hy hn hi0 hi)
          · exact hi0
      have hb := order_lt_bound hr hy h1 rfl hi
      obtain ⟨k, hk⟩ : ∃ k, k = m / 2 ^ (-i).toNat := ⟨_, rfl⟩
      have hq : k < n := by rw [hk]; exact Nat.div_lt_of_lt_mul (by rw [Nat.mul_comm]; exact hb)
      have hfl : floorW x = double.write (.number false k 0) := by
        unfold floorW
        have hr2 : FloatKind.f64.decode x = .number false m i := hr
        rw [hr2]
        unfold Datum.integral
        have e1 : i.toNat = 0 := by omega
        simp only [e1, Nat.shiftLeft_zero, cut_down]
        rw [← hk]
        rfl
      have hw : isZ (floorW x) (k : Nat) := by
        rw [hfl]
        have := write_isZ false (n := (k : Int)) (by rw [Int.natAbs_natCast]; omega) 0 (fun h => absurd h (by omega)) (fun _ => rfl)
        simpa using this
      exact ⟨k, hq, isZ_of_eq hw (by omega) h2⟩
  · have := isZ_of_eq hz (by decide) h0
    have hlt : (0 : Int) < n := by
      have h3 := isZ_order this hy
      rw [h1] at h3
      have h4 := compare_lt'.1 (Option.some.inj h3.symm)
      simpa using h4
    exact ⟨0, by omega, this⟩
end Go.Vd

set_option linter.unusedVariables false
set_option linter.unusedSimpArgs false
set_option maxRecDepth 100000
set_option maxHeartbeats 1000000
namespace Go.Proofs
open Go.RowKit Go.Lib
theorem one_flt {x : Nat} (f : Nat → Sem Value) (g : Array Value → Sem Value) : Extern.MathFloor.toIntegral.match_2 (fun _ => Sem Value) #[.float .f64 x] f g = f x := rfl
theorem floor_extern (x : Nat) (h : ∀ s t, FloatKind.f64.decode x ≠ .nan s t) (w : World) :
    (callFunc 22 #[.float .f64 x]).run Try.prog w = .ok (.value (.float .f64 (Vd.floorW x))) w := by
  rw [run_callFunc_extern Try.func22 (by kernel_rfl) (by kernel_rfl) (by kernel_rfl) (e := Extern.MathFloor.toIntegral "math.archFloor" .down) (by kernel_rfl)]
  unfold Extern.MathFloor.toIntegral Vd.floorW
  rw [one_flt]
  split
  · rename_i s t hd
    exact absurd hd (h s t)
  · simp [Sem.run]
theorem floor_calls (x : Nat) (h : ∀ s t, FloatKind.f64.decode x ≠ .nan s t) (w : World) :
    Calls Try.prog 21 #[.float .f64 x] w fun e w' => e = .returned (.float .f64 (Vd.floorW x)) ∧ w' = w := by
  have hx := floor_extern x h w
  go_enter Try.func21, Try.ntmps21
  go_wp2_with (simp only [hx])
  all_goals (go_ret; exact ⟨rfl, rfl⟩)
end Go.Proofs

set_option linter.unusedVariables false
set_option linter.unusedSimpArgs false
set_option maxRecDepth 100000
set_option maxHeartbeats 4000000
namespace Go.Vd
open Go.Proofs Ieee
theorem good_floor (x : Nat) (h : double.order x 0 = some .gt ∨ double.order x 0 = some .eq) : GoodP Try.prog gl0 21 [.flt x] (.flt (floorW x)) := by
  have hn : ∀ s t, FloatKind.f64.decode x ≠ .nan s t := fun s t hd => by
    have hd : double.read x = .nan s t := hd
    rcases h with h | h <;> (unfold Format.order at h; rw [hd] at h; cases h)
  intro w ρ rw N vs hfr hrw hg hargs
  match vs, hargs with
  | [v], ⟨r1, _⟩ =>
    cases r1 with
    | flt b =>
      refine (floor_calls x hn w).mono fun e w' he => ?_
      obtain ⟨rfl, rfl⟩ := he
      exact ⟨_, rfl, ⟨rfl, rfl, rfl, Nat.le_refl _, fun _ _ _ => rfl⟩, fun key hk => .flt _⟩
theorem isZ_zero : isZ 0 (0 : Nat) := by
  have h := read_zero false
  have e : double.word false 0 = 0 := by decide
  rw [e] at h
  obtain ⟨k, hk⟩ : ∃ k : Nat, k = 1074 := ⟨_, rfl⟩
  exact ⟨false, k, by rw [h, Int.natAbs_natCast, Nat.zero_mul, hk]; rfl, by omega, by omega⟩
theorem isZ_64 : isZ 4634204016564240384 (64 : Nat) := by
  have h := isZ_fOf (n := ((64 : Nat) : Int)) (by decide)
  rwa [show FloatKind.f64.nearest ((64 : Nat) : Int) = 4634204016564240384 by decide +kernel] at h
theorem isZ_one : isZ 4607182418800017408 (1 : Int) := by
  have h := isZ_fOf (n := (1 : Int)) (by decide)
  rwa [show FloatKind.f64.nearest (1 : Int) = 4607182418800017408 by decide +kernel] at h
theorem isZ_m64 : isZ 13857576053419016192 (-64 : Int) := by
  have h := isZ_fOf (n := (-64 : Int)) (by decide)
  rwa [show FloatKind.f64.nearest (-64 : Int) = 13857576053419016192 by decide +kernel] at h
theorem isZ_inj {x : Nat} {n m : Int} (h : isZ x n) (h' : isZ x m) : n = m := Option.some.inj ((isZ_toInt h).symm.trans (isZ_toInt h'))
/-- The number from 0 to 63 that a word says. -/
def hz (x : Nat) : Option Nat := (List.range 64).find? fun k => double.order x (FloatKind.f64.nearest ((k : Nat) : Int)) == some .eq
def rt1 (x : Nat) : Bool := (hz x).isSome
theorem hz_of {x k : Nat} (h : hz x = some k) : k < 64 ∧ isZ x k := by
  unfold hz at h
  have h1 := List.mem_of_find?_eq_some h
  have h2 := List.find?_some h
  have hk : k < 64 := List.mem_range.1 h1
  simp only [beq_iff_eq] at h2
  exact ⟨hk, isZ_of_eq (isZ_fOf (by omega)) (by omega) h2⟩
theorem hz_is {x k : Nat} (hk : k < 64) (h : isZ x k) : hz x = some k := by
  have ho : double.order x (FloatKind.f64.nearest ((k : Nat) : Int)) = some .eq := by
    rw [isZ_order h (isZ_fOf (by omega))]
    simp
  cases hf : hz x with
  | none =>
    unfold hz at hf
    rw [List.find?_eq_none] at hf
    have := hf k (List.mem_range.2 hk)
    rw [ho] at this
    simp at this
  | some k' =>
    have h2 := isZ_inj (hz_of hf).2 h
    congr 1
    omega
theorem rt1_is {x k : Nat} (hk : k < 64) (h : isZ x k) : rt1 x = true := by unfold rt1; rw [hz_is hk h]; rfl
theorem rt1_of {x : Nat} (h : rt1 x = true) : ∃ k, hz x = some k := Option.isSome_iff_exists.1 h
theorem rt1_word (x : Nat) : rt1 x = ((double.order x 0 == some .gt || double.order x 0 == some .eq) && (double.order x 4634204016564240384 == some .lt && double.order x (floorW x) == some .eq)) := by
  rw [Bool.eq_iff_iff]
  constructor
  · intro h
    obtain ⟨k, hk⟩ := rt1_of h
    obtain ⟨h1, h2⟩ := hz_of hk
    rw [isZ_order h2 isZ_zero, isZ_order h2 isZ_64, isZ_order h2 (floor_isZ h2 (by omega))]
    have e1 : compare ((k : Nat) : Int) ((64 : Nat) : Int) = .lt := by rw [Int.compare_eq_lt]; omega
    have e2 : compare ((k : Nat) : Int) ((k : Nat) : Int) = .eq := by simp
    rw [e1, e2]
    by_cases h0 : k = 0
    · subst h0; rfl
    · have e3 : compare ((k : Nat) : Int) ((0 : Nat) : Int) = .gt := by rw [Int.compare_eq_gt]; omega
      rw [e3]; rfl
  · intro h
    simp only [Bool.and_eq_true, Bool.or_eq_true, beq_iff_eq] at h
    obtain ⟨k, hk, h2⟩ := isZ_of_floor isZ_zero isZ_64 (by omega) h.1 h.2.1 h.2.2
    exact rt1_is hk h2
noncomputable def c_floor : Ct := fun A args => match args with
  | [.flt x] => some (some (A.tp fun _ => Ieee.double.order x 0 = some .gt ∨ Ieee.double.order x 0 = some .eq), .flt (A.tn fun _ => floorW x))
  | _ => none
noncomputable def gz0 : Ar → Pu := addC 21 c_floor (noC)
theorem gz0_ok : PuOk Try.prog gl0 (gz0 std) := by
  refine addC_ok (noC_ok) ⟨_, Try.func21, rfl, by decide⟩ ?_
  · intro args p r h hp
    unfold c_floor at h
    split at h <;> cases h
    exact good_floor _ hp
attribute [local irreducible] vc
theorem good_hOne (x : Nat) : GoodP Try.prog gl0 19 [.flt x] (.bool (std.tb fun _ => rt1 x)) := by
  refine fn_sound' (T := seatT) (G := gz0) (X := noX) seatT_ok gz0_ok noX_ok noI_ok mixed Try.func19 (.one) (fun A => [.flt x]) (fun A => .bool (A.tb fun _ => rt1 x)) fun A hA => ?_
  cbv
  repeat' (first | with_reducible exact True.intro | with_reducible exact dr_ok hA (by kernel_rfl) | with_reducible refine And.intro ?_ ?_ | (intro hc; cbv))
  all_goals (subst hA; simp only [std_add, std_sub, std_mul, std_quo, std_rem, std_band, std_bor, std_bxor, std_shl, std_shr, std_eq, std_ne, std_lt, std_le, std_conv, std_not, std_beq, std_bne, std_ite, std_want, std_and2, std_sadd, std_seq, std_sne, std_slt, std_sle, std_sgt, std_sge, std_slen, std_sget, std_scut, std_ofNat, std_toNat, std_nsub, std_nadd, std_lenOf, std_nz, std_nneg, std_inb, std_upto, std_slt63, std_grow, std_imp, std_impN, std_tr, std_tb, std_ti, std_ts, std_tn, std_tp, std_nmin, std_makes, std_room, std_zeros, std_nilq, std_notq, std_eqi, std_eqn, std_eqb, std_eqs, std_eqv, std_cat, std_lst, std_rset, std_rcopy, std_shift, std_eqr, std_strOf, std_bytesOf, std_isB, std_zOf, zOf_int, std_isI, isI_int, std_getL, std_nmul, std_sOf, sOf_str, std_isS, isS_str, std_fadd, std_fsub, std_fav, std_fsv, std_feq, std_fne, std_flt, std_fle, std_fgt, std_fge, std_fOf, std_fTo, std_fTv] at *)
  all_goals first
    | exact id
    | (intro h; rw [h]; rfl)
    | (intro h; exact ⟨h, h⟩)
    | (intro h; refine ⟨h, ?_⟩; cases h1 : (double.order x 0 == some Ordering.gt || double.order x 0 == some Ordering.eq) <;> simp [h1] at h ⊢; simpa using h1)
    | (rw [rt1_word]; cases (double.order x 0 == some Ordering.gt || double.order x 0 == some Ordering.eq) <;> cases (double.order x 4634204016564240384 == some Ordering.lt) <;> rfl)
    | trace_state
noncomputable def c_hOne : Ct := fun A args => match args with
  | [.flt x] => some (none, .bool (A.tb fun _ => rt1 x))
  | _ => none
noncomputable def gz1 : Ar → Pu := addC 19 c_hOne (gz0)
theorem gz1_ok : PuOk Try.prog gl0 (gz1 std) := by
  refine addC_ok (gz0_ok) ⟨_, Try.func19, rfl, by decide⟩ ?_
  · intro args p r h hp
    unfold c_hOne at h
    split at h <;> cases h
    exact good_hOne _
def rtH (a b : Nat) : Bool := rt1 a && rt1 b
theorem good_hRight (a b : Nat) : GoodP Try.prog gl0 9 [.cpx a b] (.bool (std.tb fun _ => rtH a b)) := by
  refine fn_sound' (T := seatT) (G := gz1) (X := noX) seatT_ok gz1_ok noX_ok noI_ok mixed Try.func9 (.one) (fun A => [.cpx a b]) (fun A => .bool (A.tb fun _ => rtH a b)) fun A hA => ?_
  cbv
  repeat' (first | with_reducible exact True.intro | with_reducible exact dr_ok hA (by kernel_rfl) | with_reducible refine And.intro ?_ ?_ | (intro hc; cbv))
  all_goals (subst hA; simp only [std_add, std_sub, std_mul, std_quo, std_rem, std_band, std_bor, std_bxor, std_shl, std_shr, std_eq, std_ne, std_lt, std_le, std_conv, std_not, std_beq, std_bne, std_ite, std_want, std_and2, std_sadd, std_seq, std_sne, std_slt, std_sle, std_sgt, std_sge, std_slen, std_sget, std_scut, std_ofNat, std_toNat, std_nsub, std_nadd, std_lenOf, std_nz, std_nneg, std_inb, std_upto, std_slt63, std_grow, std_imp, std_impN, std_tr, std_tb, std_ti, std_ts, std_tn, std_tp, std_nmin, std_makes, std_room, std_zeros, std_nilq, std_notq, std_eqi, std_eqn, std_eqb, std_eqs, std_eqv, std_cat, std_lst, std_rset, std_rcopy, std_shift, std_eqr, std_strOf, std_bytesOf, std_isB, std_zOf, zOf_int, std_isI, isI_int, std_getL, std_nmul, std_sOf, sOf_str, std_isS, isS_str, std_fadd, std_fsub, std_fav, std_fsv, std_feq, std_fne, std_flt, std_fle, std_fgt, std_fge, std_fOf, std_fTo, std_fTv] at *)
  all_goals first
    | exact id
    | (intro h; rw [h]; rfl)
    | (intro h; exact ⟨h, h⟩)
    | (unfold rtH; cases rt1 a <;> rfl)
    | trace_state
noncomputable def c_hRight : Ct := fun A args => match args with
  | [.cpx a b] => some (none, .bool (A.tb fun _ => rtH a b))
  | _ => none
def ofR (t : Int) : Nat := FloatKind.f64.nearest (t / 64 % 64)
def ofI (t : Int) : Nat := FloatKind.f64.nearest (t % 64)
theorem wU {n : Int} (h : 0 ≤ n ∧ n < 18446744073709551616) : IntKind.u64.wrap n = n := by rw [IntKind.wrap_u64]; omega
theorem good_hOf (t : Int) (h0 : 0 ≤ t ∧ t < 18446744073709551616) : GoodP Try.prog gl0 11 [.int .u64 t] (.cpx (std.tn fun _ => ofR t) (std.tn fun _ => ofI t)) := by
  refine fn_sound' (T := seatT) (G := noC) (X := noX) seatT_ok noC_ok noX_ok noI_ok mixed Try.func11 (.one) (fun A => [.int .u64 t]) (fun A => .cpx (A.tn fun _ => ofR t) (A.tn fun _ => ofI t)) fun A hA => ?_
  cbv
  repeat' (first | with_reducible exact True.intro | with_reducible exact dr_ok hA (by kernel_rfl) | with_reducible refine And.intro ?_ ?_ | (intro hc; cbv))
  all_goals (subst hA; simp only [std_add, std_sub, std_mul, std_quo, std_rem, std_band, std_bor, std_bxor, std_shl, std_shr, std_eq, std_ne, std_lt, std_le, std_conv, std_not, std_beq, std_bne, std_ite, std_want, std_and2, std_sadd, std_seq, std_sne, std_slt, std_sle, std_sgt, std_sge, std_slen, std_sget, std_scut, std_ofNat, std_toNat, std_nsub, std_nadd, std_lenOf, std_nz, std_nneg, std_inb, std_upto, std_slt63, std_grow, std_imp, std_impN, std_tr, std_tb, std_ti, std_ts, std_tn, std_tp, std_nmin, std_makes, std_room, std_zeros, std_nilq, std_notq, std_eqi, std_eqn, std_eqb, std_eqs, std_eqv, std_cat, std_lst, std_rset, std_rcopy, std_shift, std_eqr, std_strOf, std_bytesOf, std_isB, std_zOf, zOf_int, std_isI, isI_int, std_getL, std_nmul, std_sOf, sOf_str, std_isS, isS_str, std_fadd, std_fsub, std_fav, std_fsv, std_feq, std_fne, std_flt, std_fle, std_fgt, std_fge, std_fOf, std_fTo, std_fTv] at *)
  all_goals first
    | decide
    | (unfold ofR; congr 1; rw [Int.tdiv_eq_ediv_of_nonneg h0.1, wU (by omega), Int.tmod_eq_emod_of_nonneg (by omega)])
    | (unfold ofI; congr 1; rw [Int.tmod_eq_emod_of_nonneg h0.1])
    | trace_state
noncomputable def c_hOf : Ct := fun A args => match args with
  | [.int .u64 t] => some (some (A.tp fun _ => 0 ≤ t ∧ t < 18446744073709551616), .cpx (A.tn fun _ => ofR t) (A.tn fun _ => ofI t))
  | _ => none
noncomputable def gz2 : Ar → Pu := addC 9 c_hRight (addC 11 c_hOf (gz1))
theorem gz2_ok : PuOk Try.prog gl0 (gz2 std) := by
  refine addC_ok (addC_ok (gz1_ok) ⟨_, Try.func11, rfl, by decide⟩ ?_) ⟨_, Try.func9, rfl, by decide⟩ ?_
  · intro args p r h hp
    unfold c_hOf at h
    split at h <;> cases h
    exact good_hOf _ hp
  · intro args p r h hp
    unfold c_hRight at h
    split at h <;> cases h
    exact good_hRight _ _
/-! ### Words that stand at a tick -/
def fA (a b : Nat) : Nat := (double.add a b).getD 0
def fS (a b : Nat) : Nat := (double.sub a b).getD 0
theorem fA_isZ {x y : Nat} {n m : Int} (hx : isZ x n) (hy : isZ y m) (hb : (n + m).natAbs < 9007199254740992) : (double.add x y).isSome = true ∧ isZ (fA x y) (n + m) := by
  obtain ⟨z, h1, h2⟩ := isZ_add hx hy hb
  unfold fA
  rw [h1]
  exact ⟨rfl, h2⟩
theorem fS_isZ {x y : Nat} {n m : Int} (hx : isZ x n) (hy : isZ y m) (hb : (n - m).natAbs < 9007199254740992) : (double.sub x y).isSome = true ∧ isZ (fS x y) (n - m) := by
  obtain ⟨z, h1, h2⟩ := isZ_sub hx hy hb
  unfold fS
  rw [h1]
  exact ⟨rfl, h2⟩
def geW (x : Nat) : Bool := double.order x 4634204016564240384 == some .gt || double.order x 4634204016564240384 == some .eq
theorem geW_is {x : Nat} {n : Int} (h : isZ x n) : geW x = decide (64 ≤ n) := by
  unfold geW
  rw [isZ_order h isZ_64]
  rw [Bool.eq_iff_iff]
  simp only [Bool.or_eq_true, beq_iff_eq, Option.some.injEq, decide_eq_true_eq]
  rw [compare_gt']
  constructor
  · rintro (h | h)
    · omega
    · have := compare_eq h
      omega
  · intro h
    by_cases h2 : n = 64
    · right; rw [h2]; simp
    · left; omega
theorem eqW_is {x y : Nat} {n m : Int} (h : isZ x n) (h' : isZ y m) : (double.order x y == some .eq) = decide (n = m) := by
  rw [isZ_order h h', Bool.eq_iff_iff]
  simp only [beq_iff_eq, Option.some.injEq, decide_eq_true_eq]
  exact ⟨compare_eq, fun e => by rw [e]; simp⟩
def isH (a b : Nat) (T : Int) : Prop := 0 ≤ T ∧ T < 4096 ∧ isZ a (T / 64) ∧ isZ b (T % 64)
theorem isZ_ofNat {x : Nat} {n : Int} (h : isZ x n) (h0 : 0 ≤ n) : isZ x ((n.toNat : Nat) : Int) := by rw [Int.toNat_of_nonneg h0]; exact h
theorem isH_rt {a b : Nat} {T : Int} (h : isH a b T) : rtH a b = true := by
  obtain ⟨h0, h1, h2, h3⟩ := h
  unfold rtH
  rw [rt1_is (k := (T / 64).toNat) (by omega) (isZ_ofNat h2 (by omega)), rt1_is (k := (T % 64).toNat) (by omega) (isZ_ofNat h3 (by omega))]
  rfl
theorem isH_of {a b : Nat} (h : rtH a b = true) : ∃ T, isH a b T := by
  unfold rtH at h
  simp only [Bool.and_eq_true] at h
  obtain ⟨x, hx⟩ := rt1_of h.1
  obtain ⟨y, hy⟩ := rt1_of h.2
  obtain ⟨x1, x2⟩ := hz_of hx
  obtain ⟨y1, y2⟩ := hz_of hy
  refine ⟨64 * x + y, by omega, by omega, ?_, ?_⟩
  · rw [show (64 * (x : Int) + y) / 64 = x by omega]; exact x2
  · rw [show (64 * (x : Int) + y) % 64 = y by omega]; exact y2
theorem isH_tick {t : Int} (h0 : 0 ≤ t) : isH (ofR t) (ofI t) (t % 4096) := by
  refine ⟨by omega, by omega, ?_, ?_⟩
  · rw [show t % 4096 / 64 = t / 64 % 64 by omega]; exact isZ_fOf (by omega)
  · rw [show t % 4096 % 64 = t % 64 by omega]; exact isZ_fOf (by omega)
theorem isH_inj {a b : Nat} {T U : Int} (h : isH a b T) (h' : isH a b U) : T = U := by
  have h1 := isZ_inj h.2.2.1 h'.2.2.1
  have h2 := isZ_inj h.2.2.2 h'.2.2.2
  omega
theorem isH_eq {a b c d : Nat} {T U : Int} (h : isH a b T) (h' : isH c d U) : ((double.order a c == some .eq) && (double.order b d == some .eq)) = decide (T = U) := by
  rw [eqW_is h.2.2.1 h'.2.2.1, eqW_is h.2.2.2 h'.2.2.2, Bool.eq_iff_iff]
  simp
  omega
end Go.Vd

set_option linter.unusedVariables false
set_option linter.unusedSimpArgs false
set_option maxRecDepth 100000
set_option maxHeartbeats 4000000
namespace Go.Vd
open Go.Proofs Ieee
def ad1 (a b c d : Nat) : Nat × Nat := if geW (fA b d) = true then (fA (fA a c) 4607182418800017408, fA (fA b d) 13857576053419016192) else (fA a c, fA b d)
def ad2 (p : Nat × Nat) : Nat × Nat := if geW p.1 = true then (fS p.1 4634204016564240384, fS p.2 0) else p
def adW (a b c d : Nat) : Nat × Nat := if (rtH a b && rtH c d) = true then ad2 (ad1 a b c d) else (0, 0)
theorem ad1_is {a b c d : Nat} {T U : Int} (h : isH a b T) (h' : isH c d U) : ((double.add a c).isSome = true ∧ (double.add b d).isSome = true) ∧ (geW (fA b d) = true → (double.add (fA a c) 4607182418800017408).isSome = true ∧ (double.add (fA b d) 13857576053419016192).isSome = true) ∧
    ∃ n m : Int, (isZ (ad1 a b c d).1 n ∧ isZ (ad1 a b c d).2 m) ∧ (0 ≤ n ∧ n < 128) ∧ (0 ≤ m ∧ m < 64) ∧ 64 * n + m = T + U := by
  obtain ⟨h0, h1, h2, h3⟩ := h
  obtain ⟨g0, g1, g2, g3⟩ := h'
  have r1 := fA_isZ h2 g2 (by omega)
  have r2 := fA_isZ h3 g3 (by omega)
  have r3 := fA_isZ r1.2 isZ_one (by omega)
  have r4 := fA_isZ r2.2 isZ_m64 (by omega)
  refine ⟨⟨r1.1, r2.1⟩, fun _ => ⟨r3.1, r4.1⟩, ?_⟩
  unfold ad1
  have hg := geW_is r2.2
  by_cases hc : 64 ≤ T % 64 + U % 64
  · rw [if_pos (by rw [hg]; exact decide_eq_true hc)]
    exact ⟨_, _, ⟨r3.2, r4.2⟩, by omega, by omega, by omega⟩
  · rw [if_neg (by rw [hg]; simpa using hc)]
    exact ⟨_, _, ⟨r1.2, r2.2⟩, by omega, by omega, by omega⟩
theorem ad2_is {p : Nat × Nat} {n m : Int} (hn : isZ p.1 n) (hm : isZ p.2 m) (h1 : 0 ≤ n ∧ n < 128) (h2 : 0 ≤ m ∧ m < 64) : ((double.sub p.1 4634204016564240384).isSome = true ∧ (double.sub p.2 0).isSome = true) ∧ isH (ad2 p).1 (ad2 p).2 ((64 * n + m) % 4096) := by
  have r1 := fS_isZ hn isZ_64 (by omega)
  have r2 := fS_isZ hm isZ_zero (by omega)
  refine ⟨⟨r1.1, r2.1⟩, by omega, by omega, ?_⟩
  unfold ad2
  have hg := geW_is hn
  by_cases hc : 64 ≤ n
  · rw [if_pos (by rw [hg]; exact decide_eq_true hc)]
    refine ⟨?_, ?_⟩
    · rw [show (64 * n + m) % 4096 / 64 = n - ((64 : Nat) : Int) by omega]; exact r1.2
    · rw [show (64 * n + m) % 4096 % 64 = m - ((0 : Nat) : Int) by omega]; exact r2.2
  · rw [if_neg (by rw [hg]; simpa using hc)]
    refine ⟨?_, ?_⟩
    · rw [show (64 * n + m) % 4096 / 64 = n by omega]; exact hn
    · rw [show (64 * n + m) % 4096 % 64 = m by omega]; exact hm
theorem isH_add {a b c d : Nat} {T U : Int} (h : isH a b T) (h' : isH c d U) : isH (adW a b c d).1 (adW a b c d).2 ((T + U) % 4096) := by
  obtain ⟨_, _, n, m, ⟨h1, h2⟩, h3, h4, h5⟩ := ad1_is h h'
  have := (ad2_is h1 h2 h3 h4).2
  unfold adW
  rw [if_pos (by rw [isH_rt h, isH_rt h']; rfl), ← h5]
  exact this
theorem adW_no {a b c d : Nat} (h : (bif !rtH a b then true else !rtH c d) = true) : adW a b c d = (0, 0) := by
  unfold adW
  rw [if_neg]
  intro h2
  simp only [Bool.and_eq_true] at h2
  rw [h2.1, h2.2] at h
  cases h
theorem adW_yes {a b c d : Nat} (h : (bif !rtH a b then true else !rtH c d) = false) : (∃ T, isH a b T) ∧ (∃ U, isH c d U) ∧ adW a b c d = ad2 (ad1 a b c d) := by
  have h1 : rtH a b = true ∧ rtH c d = true := by cases h1 : rtH a b <;> cases h2 : rtH c d <;> rw [h1, h2] at h <;> simp at h ⊢
  exact ⟨isH_of h1.1, isH_of h1.2, if_pos (by rw [h1.1, h1.2]; rfl)⟩
attribute [local irreducible] vc
theorem good_hAdd (a b c d : Nat) : GoodP Try.prog gl0 13 [.cpx a b, .cpx c d] (.cpx (std.tn fun _ => (adW a b c d).1) (std.tn fun _ => (adW a b c d).2)) := by
  refine fn_sound' (T := seatT) (G := gz2) (X := noX) seatT_ok gz2_ok noX_ok noI_ok mixed Try.func13 (.one) (fun A => [.cpx a b, .cpx c d]) (fun A => .cpx (A.tn fun _ => (adW a b c d).1) (A.tn fun _ => (adW a b c d).2)) fun A hA => ?_
  cbv
  repeat' (first | with_reducible exact True.intro | with_reducible exact dr_ok hA (by kernel_rfl) | with_reducible refine And.intro ?_ ?_ | (intro hc; cbv))
  all_goals (subst hA; simp only [std_add, std_sub, std_mul, std_quo, std_rem, std_band, std_bor, std_bxor, std_shl, std_shr, std_eq, std_ne, std_lt, std_le, std_conv, std_not, std_beq, std_bne, std_ite, std_want, std_and2, std_sadd, std_seq, std_sne, std_slt, std_sle, std_sgt, std_sge, std_slen, std_sget, std_scut, std_ofNat, std_toNat, std_nsub, std_nadd, std_lenOf, std_nz, std_nneg, std_inb, std_upto, std_slt63, std_grow, std_imp, std_impN, std_tr, std_tb, std_ti, std_ts, std_tn, std_tp, std_nmin, std_makes, std_room, std_zeros, std_nilq, std_notq, std_eqi, std_eqn, std_eqb, std_eqs, std_eqv, std_cat, std_lst, std_rset, std_rcopy, std_shift, std_eqr, std_strOf, std_bytesOf, std_isB, std_zOf, zOf_int, std_isI, isI_int, std_getL, std_nmul, std_sOf, sOf_str, std_isS, isS_str, std_fadd, std_fsub, std_fav, std_fsv, std_feq, std_fne, std_flt, std_fle, std_fgt, std_fge, std_fOf, std_fTo, std_fTv] at *)
  all_goals first
    | exact id
    | (intro h; rw [h]; rfl)
    | (intro h; exact ⟨h, h⟩)
    | (have h0 := adW_no hc
       rw [h0]
       done)
    | skip
  all_goals
    have hy : (bif !rtH a b then true else !rtH c d) = false := by assumption
    obtain ⟨⟨T, hT⟩, ⟨U, hU⟩, hW⟩ := adW_yes hy
    obtain ⟨k1, k2, n, m, ⟨h1, h2⟩, h3, h4, h5⟩ := ad1_is hT hU
    have h6 := (ad2_is h1 h2 h3 h4).1
  all_goals first
    | exact k1.1
    | exact k1.2
    | exact (k2 hc).1
    | exact (k2 hc).2
    | (rename_i w g
       first
         | (have e1 : ad1 a b c d = (fA (fA a c) 4607182418800017408, fA (fA b d) 13857576053419016192) := if_pos g
            rw [e1] at h6 hW
            first
              | exact h6.1
              | exact h6.2
              | (have e2 := hW.trans (if_pos hc)
                 rw [e2]
                 first | rfl | done)
              | (have hc2 : geW (fA (fA a c) 4607182418800017408) = false := hc
                 have e2 := hW.trans (if_neg (by rw [hc2]; simp))
                 rw [e2]
                 first | rfl | done))
         | (have g2 : geW (fA b d) = false := g
            have e1 : ad1 a b c d = (fA a c, fA b d) := if_neg (by rw [g2]; simp)
            rw [e1] at h6 hW
            first
              | exact h6.1
              | exact h6.2
              | (have e2 := hW.trans (if_pos hc)
                 rw [e2]
                 first | rfl | done)
              | (have hc2 : geW (fA a c) = false := hc
                 have e2 := hW.trans (if_neg (by rw [hc2]; simp))
                 rw [e2]
                 first | rfl | done)))
    | trace_state
noncomputable def c_hAdd : Ct := fun A args => match args with
  | [.cpx a b, .cpx c d] => some (none, .cpx (A.tn fun _ => (adW a b c d).1) (A.tn fun _ => (adW a b c d).2))
  | _ => none
noncomputable def gz3 : Ar → Pu := addC 13 c_hAdd (gz2)
theorem gz3_ok : PuOk Try.prog gl0 (gz3 std) := by
  refine addC_ok (gz2_ok) ⟨_, Try.func13, rfl, by decide⟩ ?_
  · intro args p r h hp
    unfold c_hAdd at h
    split at h <;> cases h
    exact good_hAdd _ _ _ _
def tnM (n : Int) : Int := n.tmod 4096 + 4096
theorem tnM_bd (n : Int) : 1 ≤ tnM n ∧ tnM n ≤ 8191 ∧ tnM n % 4096 = n % 4096 := by
  unfold tnM
  have h1 := Int.mul_tdiv_add_tmod n 4096
  have h2 := Int.tmod_lt_of_pos n (show (0 : Int) < 4096 by decide)
  have h3 := Int.lt_tmod_of_pos n (show (0 : Int) < 4096 by decide)
  omega
theorem good_hTurn (a b : Nat) (n : Int) (hn : -9223372036854775808 ≤ n ∧ n ≤ 9223372036854775807) : GoodP Try.prog gl0 15 [.cpx a b, .int .i64 n] (.cpx (std.tn fun _ => (adW a b (ofR (tnM n)) (ofI (tnM n))).1) (std.tn fun _ => (adW a b (ofR (tnM n)) (ofI (tnM n))).2)) := by
  refine fn_sound' (T := seatT) (G := gz3) (X := noX) seatT_ok gz3_ok noX_ok noI_ok mixed Try.func15 (.one) (fun A => [.cpx a b, .int .i64 n]) (fun A => .cpx (A.tn fun _ => (adW a b (ofR (tnM n)) (ofI (tnM n))).1) (A.tn fun _ => (adW a b (ofR (tnM n)) (ofI (tnM n))).2)) fun A hA => ?_
  have hb := tnM_bd n
  have e0 : n.tmod 4096 + 4096 = tnM n := rfl
  have e1 : IntKind.i64.wrap (tnM n) = tnM n := w64 (by omega)
  have e2 : IntKind.u64.wrap (tnM n) = tnM n := wU (by omega)
  cbv
  repeat' (first | with_reducible exact True.intro | with_reducible exact dr_ok hA (by kernel_rfl) | with_reducible refine And.intro ?_ ?_ | (intro hc; cbv))
  all_goals (subst hA; simp only [std_add, std_sub, std_mul, std_quo, std_rem, std_band, std_bor, std_bxor, std_shl, std_shr, std_eq, std_ne, std_lt, std_le, std_conv, std_not, std_beq, std_bne, std_ite, std_want, std_and2, std_sadd, std_seq, std_sne, std_slt, std_sle, std_sgt, std_sge, std_slen, std_sget, std_scut, std_ofNat, std_toNat, std_nsub, std_nadd, std_lenOf, std_nz, std_nneg, std_inb, std_upto, std_slt63, std_grow, std_imp, std_impN, std_tr, std_tb, std_ti, std_ts, std_tn, std_tp, std_nmin, std_makes, std_room, std_zeros, std_nilq, std_notq, std_eqi, std_eqn, std_eqb, std_eqs, std_eqv, std_cat, std_lst, std_rset, std_rcopy, std_shift, std_eqr, std_strOf, std_bytesOf, std_isB, std_zOf, zOf_int, std_isI, isI_int, std_getL, std_nmul, std_sOf, sOf_str, std_isS, isS_str, std_fadd, std_fsub, std_fav, std_fsv, std_feq, std_fne, std_flt, std_fle, std_fgt, std_fge, std_fOf, std_fTo, std_fTv, e0, e1, e2] at *)
  all_goals first
    | decide
    | (constructor <;> omega)
    | trace_state
noncomputable def c_hTurn : Ct := fun A args => match args with
  | [.cpx a b, .int .i64 n] => some (some (A.tp fun _ => -9223372036854775808 ≤ n ∧ n ≤ 9223372036854775807), .cpx (A.tn fun _ => (adW a b (ofR (tnM n)) (ofI (tnM n))).1) (A.tn fun _ => (adW a b (ofR (tnM n)) (ofI (tnM n))).2))
  | _ => none
def tk (a b : Nat) : Int := match hz a, hz b with
  | some x, some y => 64 * x + y
  | _, _ => -1
theorem tk_is {a b : Nat} {T : Int} (h : isH a b T) : tk a b = T := by
  obtain ⟨h0, h1, h2, h3⟩ := h
  unfold tk
  rw [hz_is (k := (T / 64).toNat) (by omega) (isZ_ofNat h2 (by omega)), hz_is (k := (T % 64).toNat) (by omega) (isZ_ofNat h3 (by omega))]
  simp only
  omega
def wyW (a b c d : Nat) : Int := if (rtH a b && rtH c d) = true then (tk c d - tk a b) % 4096 else -1
theorem wyW_no {a b c d : Nat} (h : (bif !rtH a b then true else !rtH c d) = true) : wyW a b c d = -1 := by
  unfold wyW
  rw [if_neg]
  intro h2
  simp only [Bool.and_eq_true] at h2
  rw [h2.1, h2.2] at h
  cases h
theorem isH_way {a b c d : Nat} {T U : Int} (h : isH a b T) (h' : isH c d U) : wyW a b c d = (U - T) % 4096 := by
  unfold wyW
  rw [if_pos (by rw [isH_rt h, isH_rt h']; rfl), tk_is h, tk_is h']
theorem good_hWay (a b c d : Nat) : GoodP Try.prog gl0 17 [.cpx a b, .cpx c d] (.int .i64 (std.ti fun _ => wyW a b c d)) := by
  refine fn_sound' (T := seatT) (G := gz3) (X := noX) seatT_ok gz3_ok noX_ok noI_ok mixed Try.func17 (.one) (fun A => [.cpx a b, .cpx c d]) (fun A => .int .i64 (A.ti fun _ => wyW a b c d)) fun A hA => ?_
  cbv
  repeat' (first | with_reducible exact True.intro | with_reducible exact dr_ok hA (by kernel_rfl) | with_reducible refine And.intro ?_ ?_ | (intro hc; cbv))
  all_goals (subst hA; simp only [std_add, std_sub, std_mul, std_quo, std_rem, std_band, std_bor, std_bxor, std_shl, std_shr, std_eq, std_ne, std_lt, std_le, std_conv, std_not, std_beq, std_bne, std_ite, std_want, std_and2, std_sadd, std_seq, std_sne, std_slt, std_sle, std_sgt, std_sge, std_slen, std_sget, std_scut, std_ofNat, std_toNat, std_nsub, std_nadd, std_lenOf, std_nz, std_nneg, std_inb, std_upto, std_slt63, std_grow, std_imp, std_impN, std_tr, std_tb, std_ti, std_ts, std_tn, std_tp, std_nmin, std_makes, std_room, std_zeros, std_nilq, std_notq, std_eqi, std_eqn, std_eqb, std_eqs, std_eqv, std_cat, std_lst, std_rset, std_rcopy, std_shift, std_eqr, std_strOf, std_bytesOf, std_isB, std_zOf, zOf_int, std_isI, isI_int, std_getL, std_nmul, std_sOf, sOf_str, std_isS, isS_str, std_fadd, std_fsub, std_fav, std_fsv, std_feq, std_fne, std_flt, std_fle, std_fgt, std_fge, std_fOf, std_fTo, std_fTv] at *)
  all_goals first
    | exact id
    | (intro h; rw [h]; rfl)
    | (intro h; exact ⟨h, h⟩)
    | (rw [wyW_no hc]; done)
    | skip
  all_goals
    have hy : (bif !rtH a b then true else !rtH c d) = false := by assumption
    obtain ⟨⟨T, hT⟩, ⟨U, hU⟩, _⟩ := adW_yes hy
    have hw := isH_way hT hU
    obtain ⟨t0, t1, t2, t3⟩ := hT
    obtain ⟨u0, u1, u2, u3⟩ := hU
    have r1 := fS_isZ u2 t2 (by omega)
    have r2 := fS_isZ u3 t3 (by omega)
    have q1 : (FloatKind.f64.decode ((double.sub c a).getD 0)).toInt .zero = some (U / 64 - T / 64) := isZ_toInt r1.2
    have q2 : (FloatKind.f64.decode ((double.sub d b).getD 0)).toInt .zero = some (U % 64 - T % 64) := isZ_toInt r2.2
    have e1 : IntKind.i64.wrap ((U / 64 - T / 64) * 64) = (U / 64 - T / 64) * 64 := w64 (by omega)
    have e2 : IntKind.i64.wrap ((U / 64 - T / 64) * 64 + (U % 64 - T % 64)) = (U / 64 - T / 64) * 64 + (U % 64 - T % 64) := w64 (by omega)
    have e3 : IntKind.i64.wrap ((U / 64 - T / 64) * 64 + (U % 64 - T % 64) + 4096) = (U / 64 - T / 64) * 64 + (U % 64 - T % 64) + 4096 := w64 (by omega)
    have b1 : IntKind.i64.min = -9223372036854775808 := by decide
    have b2 : IntKind.i64.max = 9223372036854775807 := by decide
  all_goals first
    | decide
    | exact r1.1
    | exact r2.1
    | exact ⟨_, q1, by omega, by omega⟩
    | exact ⟨_, q2, by omega, by omega⟩
    | (rw [q1, q2]
       simp only [Option.getD_some, e1, e2, e3]
       rw [hw, Int.tmod_eq_emod_of_nonneg (by omega)]
       omega)
    | trace_state
noncomputable def c_hWay : Ct := fun A args => match args with
  | [.cpx a b, .cpx c d] => some (none, .int .i64 (A.ti fun _ => wyW a b c d))
  | _ => none
noncomputable def gz4 : Ar → Pu := addC 15 c_hTurn (addC 17 c_hWay (gz3))
theorem gz4_ok : PuOk Try.prog gl0 (gz4 std) := by
  refine addC_ok (addC_ok (gz3_ok) ⟨_, Try.func17, rfl, by decide⟩ ?_) ⟨_, Try.func15, rfl, by decide⟩ ?_
  · intro args p r h hp
    unfold c_hWay at h
    split at h <;> cases h
    exact good_hWay _ _ _ _
  · intro args p r h hp
    unfold c_hTurn at h
    split at h <;> cases h
    exact good_hTurn _ _ _ hp
def nxW (t : Int) (a b : Nat) : Int := if wyW (ofR t) (ofI t) a b = 0 then 4096 else wyW (ofR t) (ofI t) a b
def nxT (t : Int) (a b : Nat) : Int := if rtH a b = true then (if t > 18446744073709551615 - nxW t a b then 0 else t + nxW t a b) else 0
def nxE (t : Int) (a b : Nat) : Int := if rtH a b = true then (if t > 18446744073709551615 - nxW t a b then 10 else 0) else 1
theorem nxW_bd {t : Int} (h0 : 0 ≤ t) {a b : Nat} (h : rtH a b = true) : 1 ≤ nxW t a b ∧ nxW t a b ≤ 4096 := by
  obtain ⟨T, hT⟩ := isH_of h
  have hw := isH_way (isH_tick h0) hT
  unfold nxW
  rw [hw]
  split <;> omega
theorem good_hNext (t : Int) (a b : Nat) (h0 : 0 ≤ t ∧ t < 18446744073709551616) : GoodP Try.prog gl0 7 [.int .u64 t, .cpx a b] (.tup [.int .u64 (std.ti fun _ => nxT t a b), .int .i64 (std.ti fun _ => nxE t a b)]) := by
  refine fn_sound' (T := seatT) (G := gz4) (X := noX) seatT_ok gz4_ok noX_ok noI_ok mixed Try.func7 (.one) (fun A => [.int .u64 t, .cpx a b]) (fun A => .tup [.int .u64 (A.ti fun _ => nxT t a b), .int .i64 (A.ti fun _ => nxE t a b)]) fun A hA => ?_
  cbv
  repeat' (first | with_reducible exact True.intro | with_reducible exact dr_ok hA (by kernel_rfl) | with_reducible refine And.intro ?_ ?_ | (intro hc; cbv))
  all_goals (subst hA; simp only [std_add, std_sub, std_mul, std_quo, std_rem, std_band, std_bor, std_bxor, std_shl, std_shr, std_eq, std_ne, std_lt, std_le, std_conv, std_not, std_beq, std_bne, std_ite, std_want, std_and2, std_sadd, std_seq, std_sne, std_slt, std_sle, std_sgt, std_sge, std_slen, std_sget, std_scut, std_ofNat, std_toNat, std_nsub, std_nadd, std_lenOf, std_nz, std_nneg, std_inb, std_upto, std_slt63, std_grow, std_imp, std_impN, std_tr, std_tb, std_ti, std_ts, std_tn, std_tp, std_nmin, std_makes, std_room, std_zeros, std_nilq, std_notq, std_eqi, std_eqn, std_eqb, std_eqs, std_eqv, std_cat, std_lst, std_rset, std_rcopy, std_shift, std_eqr, std_strOf, std_bytesOf, std_isB, std_zOf, zOf_int, std_isI, isI_int, std_getL, std_nmul, std_sOf, sOf_str, std_isS, isS_str, std_fadd, std_fsub, std_fav, std_fsv, std_feq, std_fne, std_flt, std_fle, std_fgt, std_fge, std_fOf, std_fTo, std_fTv] at *)
  all_goals first
    | exact h0
    | (have h : rtH a b = false := by simpa using hc
       first
         | (unfold nxT; rw [if_neg (by rw [h]; simp)]; done)
         | (unfold nxE; rw [if_neg (by rw [h]; simp)]; done))
    | (have hq : (!rtH a b) = false := by assumption
       have h : rtH a b = true := by simpa using hq
       first
         | (have hz0 : (wyW (ofR t) (ofI t) a b == 0) = true := by assumption
            have hW : nxW t a b = 4096 := if_pos (by simpa using hz0)
            (
              have hb := nxW_bd h0.1 h
              rw [hW] at hb
              have w1 : IntKind.u64.wrap (4096) = 4096 := wU (by omega)
              have w2 : IntKind.u64.wrap (18446744073709551615 - 4096) = 18446744073709551615 - 4096 := wU (by omega)
              rw [w1, w2] at hc
              first
                | (have hl := of_decide_eq_true hc
                   first
                     | (unfold nxT; rw [if_pos h, hW, if_pos (by omega)])
                     | (unfold nxE; rw [if_pos h, hW, if_pos (by omega)]))
                | (have hl := of_decide_eq_false hc
                   first
                     | (unfold nxT; rw [if_pos h, hW, if_neg (by omega), w1]; exact wU (by omega))
                     | (unfold nxE; rw [if_pos h, hW, if_neg (by omega)]))))
         | (have hz0 : (wyW (ofR t) (ofI t) a b == 0) = false := by assumption
            have hW : nxW t a b = wyW (ofR t) (ofI t) a b := if_neg (by simpa using hz0)
            (
              have hb := nxW_bd h0.1 h
              rw [hW] at hb
              have w1 : IntKind.u64.wrap (wyW (ofR t) (ofI t) a b) = wyW (ofR t) (ofI t) a b := wU (by omega)
              have w2 : IntKind.u64.wrap (18446744073709551615 - wyW (ofR t) (ofI t) a b) = 18446744073709551615 - wyW (ofR t) (ofI t) a b := wU (by omega)
              rw [w1, w2] at hc
              first
                | (have hl := of_decide_eq_true hc
                   first
                     | (unfold nxT; rw [if_pos h, hW, if_pos (by omega)])
                     | (unfold nxE; rw [if_pos h, hW, if_pos (by omega)]))
                | (have hl := of_decide_eq_false hc
                   first
                     | (unfold nxT; rw [if_pos h, hW, if_neg (by omega), w1]; exact wU (by omega))
                     | (unfold nxE; rw [if_pos h, hW, if_neg (by omega)]))))
         | trace_state)
    | trace_state
noncomputable def c_hNext : Ct := fun A args => match args with
  | [.int .u64 t, .cpx a b] => some (some (A.tp fun _ => 0 ≤ t ∧ t < 18446744073709551616), .tup [.int .u64 (A.ti fun _ => nxT t a b), .int .i64 (A.ti fun _ => nxE t a b)])
  | _ => none
noncomputable def gz5 : Ar → Pu := addC 7 c_hNext (gz4)
theorem gz5_ok : PuOk Try.prog gl0 (gz5 std) := by
  refine addC_ok (gz4_ok) ⟨_, Try.func7, rfl, by decide⟩ ?_
  · intro args p r h hp
    unfold c_hNext at h
    split at h <;> cases h
    exact good_hNext _ _ _ hp
end Go.Vd

set_option linter.unusedVariables false
set_option linter.unusedSimpArgs false
set_option maxRecDepth 100000
set_option maxHeartbeats 4000000
namespace Go.Vd
open Go.Proofs Ieee
attribute [local irreducible] vc
theorem good_hAwake  : GoodP Try.prog gl0 5 [] (.bool true) := by
  refine fn_sound' (T := seatT) (G := gz5) (X := noX) seatT_ok gz5_ok noX_ok noI_ok mixed Try.func5 (.one) (fun A => []) (fun A => .bool true) fun A hA => ?_
  cbv
  repeat' (first | with_reducible exact True.intro | with_reducible exact dr_ok hA (by kernel_rfl) | with_reducible refine And.intro ?_ ?_ | (intro hc; cbv))
  all_goals (subst hA; try simp only [std_add, std_sub, std_mul, std_quo, std_rem, std_band, std_bor, std_bxor, std_shl, std_shr, std_eq, std_ne, std_lt, std_le, std_conv, std_not, std_beq, std_bne, std_ite, std_want, std_and2, std_sadd, std_seq, std_sne, std_slt, std_sle, std_sgt, std_sge, std_slen, std_sget, std_scut, std_ofNat, std_toNat, std_nsub, std_nadd, std_lenOf, std_nz, std_nneg, std_inb, std_upto, std_slt63, std_grow, std_imp, std_impN, std_tr, std_tb, std_ti, std_ts, std_tn, std_tp, std_nmin, std_makes, std_room, std_zeros, std_nilq, std_notq, std_eqi, std_eqn, std_eqb, std_eqs, std_eqv, std_cat, std_lst, std_rset, std_rcopy, std_shift, std_eqr, std_strOf, std_bytesOf, std_isB, std_zOf, zOf_int, std_isI, isI_int, std_getL, std_nmul, std_sOf, sOf_str, std_isS, isS_str, std_fadd, std_fsub, std_fav, std_fsv, std_feq, std_fne, std_flt, std_fle, std_fgt, std_fge, std_fOf, std_fTo, std_fTv] at *)
  all_goals first
    | exact id
    | (intro h; rw [h]; rfl)
    | (intro h; exact ⟨h, h⟩)
    | decide
    | decide +kernel
    | trace_state
noncomputable def c_hAwake : Ct := fun A args => match args with
  | [] => some (none, .bool true)
  | _ => none
noncomputable def gz6 : Ar → Pu := addC 5 c_hAwake (gz5)
theorem gz6_ok : PuOk Try.prog gl0 (gz6 std) := by
  refine addC_ok (gz5_ok) ⟨_, Try.func5, rfl, by decide⟩ ?_
  · intro args p r h hp
    unfold c_hAwake at h
    split at h <;> cases h
    exact good_hAwake
def isA (p : Nat × Nat) (T : Int) : Prop := isH p.1 p.2 T
theorem isH_turn {a b : Nat} {T : Int} (h : isH a b T) (n : Int) : isH (adW a b (ofR (tnM n)) (ofI (tnM n))).1 (adW a b (ofR (tnM n)) (ofI (tnM n))).2 ((T + n) % 4096) := by
  have hb := tnM_bd n
  have h1 := isH_add h (isH_tick (t := tnM n) (by omega))
  rw [show (T + tnM n % 4096) % 4096 = (T + n) % 4096 by omega] at h1
  exact h1
theorem isH_next {t : Int} (h0 : 0 ≤ t) {a b : Nat} {T : Int} (h : isH a b T) (h1 : t ≤ 18446744073709551615 - 4096) : nxE t a b = 0 ∧ nxT t a b = t + nxW t a b ∧ 1 ≤ nxW t a b ∧ nxW t a b ≤ 4096 ∧ (t + nxW t a b) % 4096 = T := by
  have hr := isH_rt h
  have hb := nxW_bd h0 hr
  have hw := isH_way (isH_tick h0) h
  obtain ⟨t0, t1, _, _⟩ := h
  refine ⟨?_, ?_, hb.1, hb.2, ?_⟩
  · unfold nxE; rw [if_pos hr, if_neg (by omega)]
  · unfold nxT; rw [if_pos hr, if_neg (by omega)]
  · unfold nxW at hb ⊢
    rw [hw] at hb ⊢
    split at hb <;> split <;> omega
theorem good_HandTurns (t u n : Int) (ht : 0 ≤ t ∧ t < 4294967296) (hu : 0 ≤ u ∧ u < 4294967296) (hn : -32768 ≤ n ∧ n ≤ 32767) : GoodP Try.prog gl0 4 [.int .u32 t, .int .u32 u, .int .i16 n] (.bool true) := by
  refine fn_sound' (T := seatT) (G := gz6) (X := noX) seatT_ok gz6_ok noX_ok noI_ok mixed Try.func4 (.one) (fun A => [.int .u32 t, .int .u32 u, .int .i16 n]) (fun A => .bool true) fun A hA => ?_
  have w1 : IntKind.u64.wrap t = t := wU (by omega)
  have w2 : IntKind.u64.wrap u = u := wU (by omega)
  have w3 : IntKind.i64.wrap t = t := w64 (by omega)
  have w4 : IntKind.i64.wrap n = n := w64 (by omega)
  have w5 : IntKind.i64.wrap (t + n) = t + n := w64 (by omega)
  have w6 : IntKind.i64.wrap (0 - n) = -n := (w64 (by omega)).trans (by omega)
  have w7 : IntKind.u64.wrap (t + u) = t + u := wU (by omega)
  have w8 : IntKind.u64.wrap (t + 4096) = t + 4096 := wU (by omega)
  have w9 : 0 ≤ t + n → IntKind.u64.wrap (t + n) = t + n := fun h => wU (by omega)
  have hT := isH_tick (t := t) ht.1
  have hU := isH_tick (t := u) hu.1
  have hW0 := isH_way hT hU
  have hV0 := isH_way hU hT
  obtain ⟨x1, x2, x3, x4, x5⟩ := isH_next ht.1 hU (by omega)
  have hb1 := isH_turn hT n
  have hb2 := isH_turn hb1 (-n)
  have hb3 := isH_add hT hU
  have hb4 := isH_turn hT (wyW (ofR t) (ofI t) (ofR u) (ofI u))
  have E1 : 0 ≤ t + n → _ := fun h => (isH_eq hb1 (isH_tick h)).trans (decide_eq_true (by omega))
  have E2 := (isH_eq hb2 hT).trans (decide_eq_true (by omega))
  have E3 := (isH_eq hb3 (isH_tick (t := t + u) (by omega))).trans (decide_eq_true (by omega))
  have E4 := (isH_eq hb4 hU).trans (decide_eq_true (by omega))
  have E5 := (isH_eq (isH_tick (t := t + nxW t (ofR u) (ofI u)) (by omega)) hU).trans (decide_eq_true (by omega))
  have E6 := (isH_eq (isH_tick (t := t + 4096) (by omega)) hT).trans (decide_eq_true (by omega))
  have hR := isH_rt hT
  obtain ⟨W, hW⟩ : ∃ W, W = wyW (ofR t) (ofI t) (ofR u) (ofI u) := ⟨_, rfl⟩
  obtain ⟨V, hV⟩ : ∃ V, V = wyW (ofR u) (ofI u) (ofR t) (ofI t) := ⟨_, rfl⟩
  rw [← hW] at hW0 E4
  rw [← hV] at hV0
  have hW2 : wyW (ofR t) (ofI t) (ofR u) (ofI u) = W := hW.symm
  have hV2 : wyW (ofR u) (ofI u) (ofR t) (ofI t) = V := hV.symm
  have w10 : IntKind.i64.wrap (W + V) = W + V := w64 (by omega)
  clear hb1 hb2 hb3 hb4 hT hU hW hV
  cbv
  repeat' (first | with_reducible exact True.intro | with_reducible exact dr_ok hA (by kernel_rfl) | with_reducible refine And.intro ?_ ?_ | (intro hc; cbv))
  all_goals (subst hA; try simp only [std_add, std_sub, std_mul, std_quo, std_rem, std_band, std_bor, std_bxor, std_shl, std_shr, std_eq, std_ne, std_lt, std_le, std_conv, std_not, std_beq, std_bne, std_ite, std_want, std_and2, std_sadd, std_seq, std_sne, std_slt, std_sle, std_sgt, std_sge, std_slen, std_sget, std_scut, std_ofNat, std_toNat, std_nsub, std_nadd, std_lenOf, std_nz, std_nneg, std_inb, std_upto, std_slt63, std_grow, std_imp, std_impN, std_tr, std_tb, std_ti, std_ts, std_tn, std_tp, std_nmin, std_makes, std_room, std_zeros, std_nilq, std_notq, std_eqi, std_eqn, std_eqb, std_eqs, std_eqv, std_cat, std_lst, std_rset, std_rcopy, std_shift, std_eqr, std_strOf, std_bytesOf, std_isB, std_zOf, zOf_int, std_isI, isI_int, std_getL, std_nmul, std_sOf, sOf_str, std_isS, isS_str, std_fadd, std_fsub, std_fav, std_fsv, std_feq, std_fne, std_flt, std_fle, std_fgt, std_fge, std_fOf, std_fTo, std_fTv, w1, w2, w3, w4, w5, w6, w7, w8, w10, hW2, hV2, x1, x2, hR, E2, E3, E4, E5, E6] at *)
  all_goals first
    | exact id
    | (intro h; rw [h]; rfl)
    | (intro h; exact ⟨h, h⟩)
    | (exfalso; revert hc; decide)
    | omega
    | (constructor <;> omega)
    | skip
  all_goals first
    | (by_cases hx : 0 ≤ t + n
       · have e1 := w9 hx
         have e2 := E1 hx
         have e3 : decide (0 ≤ t + n) = true := decide_eq_true hx
         clear w9 E1
         simp only [e1, e2, e3] at hc ⊢
         first
           | (simp; done)
           | (simp; omega)
           | (intro h; simp at h ⊢; omega)
           | (exfalso; revert hc; decide)
       · have e3 : decide (0 ≤ t + n) = false := decide_eq_false hx
         clear w9 E1
         simp only [e3] at hc ⊢
         first
           | (simp; done)
           | (simp; omega)
           | (intro h; simp at h ⊢; omega)
           | (exfalso; revert hc; decide))
    | (exfalso
       by_cases hx : 0 ≤ t + n
       · have e1 := w9 hx
         have e2 := E1 hx
         rw [e1, e2, decide_eq_true hx] at hc
         simp at hc
       · rw [decide_eq_false hx] at hc
         simp at hc)
    | skip
  all_goals trace_state
end Go.Vd

set_option linter.unusedVariables false
set_option linter.unusedSimpArgs false
set_option maxRecDepth 100000
set_option maxHeartbeats 4000000
namespace Go.Vd
open Go.Proofs Ieee
theorem w_succ {a b : Nat} (h : b = a + 1) (hb : a ≤ 1000000000000) : IntKind.i64.wrap ((a : Int) + 1) = (b : Int) := by
  rw [w64 (by omega)]; omega
def hit (x i : Nat) : Bool := double.order x (FloatKind.f64.nearest ((i : Nat) : Int)) == some .eq
theorem hit_is {x i : Nat} (hi : i < 64) (h : hit x i = true) : hz x = some i := by
  unfold hit at h
  simp only [beq_iff_eq] at h
  exact hz_is hi (isZ_of_eq (isZ_fOf (by omega)) (by omega) h)
theorem hz_hit {x i : Nat} (h : hz x = some i) : hit x i = true := List.find?_some h
theorem hz_none {x : Nat} (h : ∀ q, q < 64 → hit x q = false) : hz x = none := by
  cases hf : hz x with
  | none => rfl
  | some k =>
    have := h k (hz_of hf).1
    rw [hz_hit hf] at this
    cases this
theorem tk_hit {a b i j : Nat} (hi : i < 64) (hj : j < 64) (h : hit a i = true) (h' : hit b j = true) : tk a b = 64 * (i : Int) + (j : Int) := by
  unfold tk
  rw [hit_is hi h, hit_is hj h']
theorem tk_no {a b : Nat} (h : ∀ j, j < 64 → hit a j = false ∨ hz b = none) : tk a b = -1 := by
  unfold tk
  cases ha : hz a with
  | none => rfl
  | some x =>
    rcases h x (hz_of ha).1 with h | h
    · rw [hz_hit ha] at h; cases h
    · rw [h]
theorem tk_rt (a b : Nat) : rtH a b = decide (0 ≤ tk a b) := by
  unfold rtH rt1 tk
  cases hz a <;> cases hz b <;> simp
  omega
attribute [local irreducible] vc
theorem good_rTick (a b : Nat) : GoodP Try.prog gl0 10 [.cpx a b] (.int .i64 (std.ti fun _ => tk a b)) := by
  refine fn_sound' (T := seatT) (G := noC) (X := noX) seatT_ok noC_ok noX_ok noI_ok mixed Try.func10 (.one) (fun A => [.cpx a b]) (fun A => .int .i64 (A.ti fun _ => tk a b)) fun A hA => ?_
  cbv
  repeat' (first | with_reducible exact True.intro | with_reducible exact dr_ok hA (by kernel_rfl) | with_reducible refine And.intro ?_ ?_ | (intro hc; cbv))
  refine ⟨⟨{i : Nat // i ≤ 64 ∧ ∀ j, j < i → hit a j = false ∨ hz b = none}, fun q i => [(3, .int .i64 (i.1 : Nat))], fun q i => [], fun i => 64 - i.1, true⟩, ⟨⟨0, by omega, by simp⟩, ?_⟩, ?_⟩
  · cbv
    subst hA
    simp [std_add, std_sub, std_mul, std_quo, std_rem, std_band, std_bor, std_bxor, std_shl, std_shr, std_eq, std_ne, std_lt, std_le, std_conv, std_not, std_beq, std_bne, std_ite, std_want, std_and2, std_sadd, std_seq, std_sne, std_slt, std_sle, std_sgt, std_sge, std_slen, std_sget, std_scut, std_ofNat, std_toNat, std_nsub, std_nadd, std_lenOf, std_nz, std_nneg, std_inb, std_upto, std_slt63, std_grow, std_imp, std_impN, std_tr, std_tb, std_ti, std_ts, std_tn, std_tp, std_nmin, std_makes, std_room, std_zeros, std_nilq, std_notq, std_eqi, std_eqn, std_eqb, std_eqs, std_eqv, std_cat, std_lst, std_rset, std_rcopy, std_shift, std_eqr, std_strOf, std_bytesOf, std_isB, std_zOf, zOf_int, std_isI, isI_int, std_getL, std_nmul, std_sOf, sOf_str, std_isS, isS_str, std_fadd, std_fsub, std_fav, std_fsv, std_feq, std_fne, std_flt, std_fle, std_fgt, std_fge, std_fOf, std_fTo, std_fTv]
  · intro x
    obtain ⟨i, hx⟩ := x
    have hi := hx.1
    have hz0 := hx.2
    by_cases hlt : i < 64
    · have hh : (double.order a (FloatKind.f64.nearest ((i : Nat) : Int)) == some .eq) = hit a i := rfl
      have hstep : ∀ i', i' = i + 1 → (hit a i = false ∨ hz b = none) → ∀ j, j < i' → hit a j = false ∨ hz b = none := fun i' h h2 j hj => by
        rcases Nat.lt_or_ge j i with h3 | h3
        · exact hz0 j h3
        · obtain rfl : j = i := by omega
          exact h2
      clear hz0
      cbv
      repeat' (first | with_reducible exact True.intro | with_reducible exact dr_ok hA (by kernel_rfl) | with_reducible refine And.intro ?_ ?_ | (intro hc; cbv))
      all_goals first
        | (exfalso; subst hA; simp [std_add, std_sub, std_mul, std_quo, std_rem, std_band, std_bor, std_bxor, std_shl, std_shr, std_eq, std_ne, std_lt, std_le, std_conv, std_not, std_beq, std_bne, std_ite, std_want, std_and2, std_sadd, std_seq, std_sne, std_slt, std_sle, std_sgt, std_sge, std_slen, std_sget, std_scut, std_ofNat, std_toNat, std_nsub, std_nadd, std_lenOf, std_nz, std_nneg, std_inb, std_upto, std_slt63, std_grow, std_imp, std_impN, std_tr, std_tb, std_ti, std_ts, std_tn, std_tp, std_nmin, std_makes, std_room, std_zeros, std_nilq, std_notq, std_eqi, std_eqn, std_eqb, std_eqs, std_eqv, std_cat, std_lst, std_rset, std_rcopy, std_shift, std_eqr, std_strOf, std_bytesOf, std_isB, std_zOf, zOf_int, std_isI, isI_int, std_getL, std_nmul, std_sOf, sOf_str, std_isS, isS_str, std_fadd, std_fsub, std_fav, std_fsv, std_feq, std_fne, std_flt, std_fle, std_fgt, std_fge, std_fOf, std_fTo, std_fTv] at hc; omega)
        | (obtain ⟨i', hi'⟩ : ∃ i', i' = i + 1 := ⟨_, rfl⟩
           have hf : hit a i = false := by
             clear hstep
             subst hA
             simp only [std_add, std_sub, std_mul, std_quo, std_rem, std_band, std_bor, std_bxor, std_shl, std_shr, std_eq, std_ne, std_lt, std_le, std_conv, std_not, std_beq, std_bne, std_ite, std_want, std_and2, std_sadd, std_seq, std_sne, std_slt, std_sle, std_sgt, std_sge, std_slen, std_sget, std_scut, std_ofNat, std_toNat, std_nsub, std_nadd, std_lenOf, std_nz, std_nneg, std_inb, std_upto, std_slt63, std_grow, std_imp, std_impN, std_tr, std_tb, std_ti, std_ts, std_tn, std_tp, std_nmin, std_makes, std_room, std_zeros, std_nilq, std_notq, std_eqi, std_eqn, std_eqb, std_eqs, std_eqv, std_cat, std_lst, std_rset, std_rcopy, std_shift, std_eqr, std_strOf, std_bytesOf, std_isB, std_zOf, zOf_int, std_isI, isI_int, std_getL, std_nmul, std_sOf, sOf_str, std_isS, isS_str, std_fadd, std_fsub, std_fav, std_fsv, std_feq, std_fne, std_flt, std_fle, std_fgt, std_fge, std_fOf, std_fTo, std_fTv] at hc
             have h2 := hc
             unfold hit
             simp at h2 ⊢
             exact h2
           refine ⟨⟨i', by omega, hstep i' hi' (.inl hf)⟩, ?_, show 64 - i' < 64 - i by omega⟩
           cbv
           subst hA
           simp [std_add, std_sub, std_mul, std_quo, std_rem, std_band, std_bor, std_bxor, std_shl, std_shr, std_eq, std_ne, std_lt, std_le, std_conv, std_not, std_beq, std_bne, std_ite, std_want, std_and2, std_sadd, std_seq, std_sne, std_slt, std_sle, std_sgt, std_sge, std_slen, std_sget, std_scut, std_ofNat, std_toNat, std_nsub, std_nadd, std_lenOf, std_nz, std_nneg, std_inb, std_upto, std_slt63, std_grow, std_imp, std_impN, std_tr, std_tb, std_ti, std_ts, std_tn, std_tp, std_nmin, std_makes, std_room, std_zeros, std_nilq, std_notq, std_eqi, std_eqn, std_eqb, std_eqs, std_eqv, std_cat, std_lst, std_rset, std_rcopy, std_shift, std_eqr, std_strOf, std_bytesOf, std_isB, std_zOf, zOf_int, std_isI, isI_int, std_getL, std_nmul, std_sOf, sOf_str, std_isS, isS_str, std_fadd, std_fsub, std_fav, std_fsv, std_feq, std_fne, std_flt, std_fle, std_fgt, std_fge, std_fOf, std_fTo, std_fTv]
           exact w_succ hi' (by omega))
        | skip
      have ht : hit a i = true := by
        clear hstep
        subst hA
        simp only [std_add, std_sub, std_mul, std_quo, std_rem, std_band, std_bor, std_bxor, std_shl, std_shr, std_eq, std_ne, std_lt, std_le, std_conv, std_not, std_beq, std_bne, std_ite, std_want, std_and2, std_sadd, std_seq, std_sne, std_slt, std_sle, std_sgt, std_sge, std_slen, std_sget, std_scut, std_ofNat, std_toNat, std_nsub, std_nadd, std_lenOf, std_nz, std_nneg, std_inb, std_upto, std_slt63, std_grow, std_imp, std_impN, std_tr, std_tb, std_ti, std_ts, std_tn, std_tp, std_nmin, std_makes, std_room, std_zeros, std_nilq, std_notq, std_eqi, std_eqn, std_eqb, std_eqs, std_eqv, std_cat, std_lst, std_rset, std_rcopy, std_shift, std_eqr, std_strOf, std_bytesOf, std_isB, std_zOf, zOf_int, std_isI, isI_int, std_getL, std_nmul, std_sOf, sOf_str, std_isS, isS_str, std_fadd, std_fsub, std_fav, std_fsv, std_feq, std_fne, std_flt, std_fle, std_fgt, std_fge, std_fOf, std_fTo, std_fTv] at hc
        have h2 := hc
        unfold hit
        simp at h2 ⊢
        exact h2
      refine ⟨⟨{j : Nat // j ≤ 64 ∧ ∀ q, q < j → hit b q = false}, fun q j => [(4, .int .i64 (j.1 : Nat))], fun q j => [], fun j => 64 - j.1, true⟩, ⟨⟨0, by omega, by simp⟩, ?_⟩, ?_⟩
      · cbv
        subst hA
        simp [std_add, std_sub, std_mul, std_quo, std_rem, std_band, std_bor, std_bxor, std_shl, std_shr, std_eq, std_ne, std_lt, std_le, std_conv, std_not, std_beq, std_bne, std_ite, std_want, std_and2, std_sadd, std_seq, std_sne, std_slt, std_sle, std_sgt, std_sge, std_slen, std_sget, std_scut, std_ofNat, std_toNat, std_nsub, std_nadd, std_lenOf, std_nz, std_nneg, std_inb, std_upto, std_slt63, std_grow, std_imp, std_impN, std_tr, std_tb, std_ti, std_ts, std_tn, std_tp, std_nmin, std_makes, std_room, std_zeros, std_nilq, std_notq, std_eqi, std_eqn, std_eqb, std_eqs, std_eqv, std_cat, std_lst, std_rset, std_rcopy, std_shift, std_eqr, std_strOf, std_bytesOf, std_isB, std_zOf, zOf_int, std_isI, isI_int, std_getL, std_nmul, std_sOf, sOf_str, std_isS, isS_str, std_fadd, std_fsub, std_fav, std_fsv, std_feq, std_fne, std_flt, std_fle, std_fgt, std_fge, std_fOf, std_fTo, std_fTv]
      · intro y
        obtain ⟨j, hx2⟩ := y
        have hj := hx2.1
        have hy0 := hx2.2
        by_cases hlt2 : j < 64
        · have hstep2 : ∀ j', j' = j + 1 → hit b j = false → ∀ q, q < j' → hit b q = false := fun j' h h2 q hq => by
            rcases Nat.lt_or_ge q j with h3 | h3
            · exact hy0 q h3
            · obtain rfl : q = j := by omega
              exact h2
          have hans := fun h => tk_hit hlt hlt2 ht (b := b) h
          have e1 : IntKind.i64.wrap (64 * (i : Int)) = 64 * (i : Int) := w64 (by omega)
          have e2 : IntKind.i64.wrap (64 * (i : Int) + (j : Int)) = 64 * (i : Int) + (j : Int) := w64 (by omega)
          clear hstep hy0
          cbv
          repeat' (first | with_reducible exact True.intro | with_reducible exact dr_ok hA (by kernel_rfl) | with_reducible refine And.intro ?_ ?_ | (intro hc; cbv))
          all_goals first
            | (exfalso; clear hstep2 hans; subst hA; simp [std_add, std_sub, std_mul, std_quo, std_rem, std_band, std_bor, std_bxor, std_shl, std_shr, std_eq, std_ne, std_lt, std_le, std_conv, std_not, std_beq, std_bne, std_ite, std_want, std_and2, std_sadd, std_seq, std_sne, std_slt, std_sle, std_sgt, std_sge, std_slen, std_sget, std_scut, std_ofNat, std_toNat, std_nsub, std_nadd, std_lenOf, std_nz, std_nneg, std_inb, std_upto, std_slt63, std_grow, std_imp, std_impN, std_tr, std_tb, std_ti, std_ts, std_tn, std_tp, std_nmin, std_makes, std_room, std_zeros, std_nilq, std_notq, std_eqi, std_eqn, std_eqb, std_eqs, std_eqv, std_cat, std_lst, std_rset, std_rcopy, std_shift, std_eqr, std_strOf, std_bytesOf, std_isB, std_zOf, zOf_int, std_isI, isI_int, std_getL, std_nmul, std_sOf, sOf_str, std_isS, isS_str, std_fadd, std_fsub, std_fav, std_fsv, std_feq, std_fne, std_flt, std_fle, std_fgt, std_fge, std_fOf, std_fTo, std_fTv] at hc; omega)
            | (fail_if_success (refine Exists.intro ?_ ?_)
               clear hstep2
               have h3 : hit b j = true := by
                 clear hans
                 subst hA
                 simp only [std_add, std_sub, std_mul, std_quo, std_rem, std_band, std_bor, std_bxor, std_shl, std_shr, std_eq, std_ne, std_lt, std_le, std_conv, std_not, std_beq, std_bne, std_ite, std_want, std_and2, std_sadd, std_seq, std_sne, std_slt, std_sle, std_sgt, std_sge, std_slen, std_sget, std_scut, std_ofNat, std_toNat, std_nsub, std_nadd, std_lenOf, std_nz, std_nneg, std_inb, std_upto, std_slt63, std_grow, std_imp, std_impN, std_tr, std_tb, std_ti, std_ts, std_tn, std_tp, std_nmin, std_makes, std_room, std_zeros, std_nilq, std_notq, std_eqi, std_eqn, std_eqb, std_eqs, std_eqv, std_cat, std_lst, std_rset, std_rcopy, std_shift, std_eqr, std_strOf, std_bytesOf, std_isB, std_zOf, zOf_int, std_isI, isI_int, std_getL, std_nmul, std_sOf, sOf_str, std_isS, isS_str, std_fadd, std_fsub, std_fav, std_fsv, std_feq, std_fne, std_flt, std_fle, std_fgt, std_fge, std_fOf, std_fTo, std_fTv] at hc
                 have h2 := hc
                 unfold hit
                 simp at h2 ⊢
                 exact h2
               rw [hans h3]
               subst hA
               simp [std_add, std_sub, std_mul, std_quo, std_rem, std_band, std_bor, std_bxor, std_shl, std_shr, std_eq, std_ne, std_lt, std_le, std_conv, std_not, std_beq, std_bne, std_ite, std_want, std_and2, std_sadd, std_seq, std_sne, std_slt, std_sle, std_sgt, std_sge, std_slen, std_sget, std_scut, std_ofNat, std_toNat, std_nsub, std_nadd, std_lenOf, std_nz, std_nneg, std_inb, std_upto, std_slt63, std_grow, std_imp, std_impN, std_tr, std_tb, std_ti, std_ts, std_tn, std_tp, std_nmin, std_makes, std_room, std_zeros, std_nilq, std_notq, std_eqi, std_eqn, std_eqb, std_eqs, std_eqv, std_cat, std_lst, std_rset, std_rcopy, std_shift, std_eqr, std_strOf, std_bytesOf, std_isB, std_zOf, zOf_int, std_isI, isI_int, std_getL, std_nmul, std_sOf, sOf_str, std_isS, isS_str, std_fadd, std_fsub, std_fav, std_fsv, std_feq, std_fne, std_flt, std_fle, std_fgt, std_fge, std_fOf, std_fTo, std_fTv, e1, e2]
               done)
            | (obtain ⟨j', hj'⟩ : ∃ j', j' = j + 1 := ⟨_, rfl⟩
               have h3 : hit b j = false := by
                 clear hstep2 hans
                 subst hA
                 simp only [std_add, std_sub, std_mul, std_quo, std_rem, std_band, std_bor, std_bxor, std_shl, std_shr, std_eq, std_ne, std_lt, std_le, std_conv, std_not, std_beq, std_bne, std_ite, std_want, std_and2, std_sadd, std_seq, std_sne, std_slt, std_sle, std_sgt, std_sge, std_slen, std_sget, std_scut, std_ofNat, std_toNat, std_nsub, std_nadd, std_lenOf, std_nz, std_nneg, std_inb, std_upto, std_slt63, std_grow, std_imp, std_impN, std_tr, std_tb, std_ti, std_ts, std_tn, std_tp, std_nmin, std_makes, std_room, std_zeros, std_nilq, std_notq, std_eqi, std_eqn, std_eqb, std_eqs, std_eqv, std_cat, std_lst, std_rset, std_rcopy, std_shift, std_eqr, std_strOf, std_bytesOf, std_isB, std_zOf, zOf_int, std_isI, isI_int, std_getL, std_nmul, std_sOf, sOf_str, std_isS, isS_str, std_fadd, std_fsub, std_fav, std_fsv, std_feq, std_fne, std_flt, std_fle, std_fgt, std_fge, std_fOf, std_fTo, std_fTv] at hc
                 have h2 := hc
                 unfold hit
                 simp at h2 ⊢
                 exact h2
               refine ⟨⟨j', by omega, hstep2 j' hj' h3⟩, ?_, show 64 - j' < 64 - j by omega⟩
               cbv
               subst hA
               simp [std_add, std_sub, std_mul, std_quo, std_rem, std_band, std_bor, std_bxor, std_shl, std_shr, std_eq, std_ne, std_lt, std_le, std_conv, std_not, std_beq, std_bne, std_ite, std_want, std_and2, std_sadd, std_seq, std_sne, std_slt, std_sle, std_sgt, std_sge, std_slen, std_sget, std_scut, std_ofNat, std_toNat, std_nsub, std_nadd, std_lenOf, std_nz, std_nneg, std_inb, std_upto, std_slt63, std_grow, std_imp, std_impN, std_tr, std_tb, std_ti, std_ts, std_tn, std_tp, std_nmin, std_makes, std_room, std_zeros, std_nilq, std_notq, std_eqi, std_eqn, std_eqb, std_eqs, std_eqv, std_cat, std_lst, std_rset, std_rcopy, std_shift, std_eqr, std_strOf, std_bytesOf, std_isB, std_zOf, zOf_int, std_isI, isI_int, std_getL, std_nmul, std_sOf, sOf_str, std_isS, isS_str, std_fadd, std_fsub, std_fav, std_fsv, std_feq, std_fne, std_flt, std_fle, std_fgt, std_fge, std_fOf, std_fTo, std_fTv]
               exact w_succ hj' (by omega))
            | trace_state
        · have hb : hz b = none := hz_none fun q hq => hy0 q (by omega)
          clear hy0
          cbv
          repeat' (first | with_reducible exact True.intro | with_reducible exact dr_ok hA (by kernel_rfl) | with_reducible refine And.intro ?_ ?_ | (intro hc; cbv))
          all_goals first
            | (exfalso; clear hstep; subst hA; simp [std_add, std_sub, std_mul, std_quo, std_rem, std_band, std_bor, std_bxor, std_shl, std_shr, std_eq, std_ne, std_lt, std_le, std_conv, std_not, std_beq, std_bne, std_ite, std_want, std_and2, std_sadd, std_seq, std_sne, std_slt, std_sle, std_sgt, std_sge, std_slen, std_sget, std_scut, std_ofNat, std_toNat, std_nsub, std_nadd, std_lenOf, std_nz, std_nneg, std_inb, std_upto, std_slt63, std_grow, std_imp, std_impN, std_tr, std_tb, std_ti, std_ts, std_tn, std_tp, std_nmin, std_makes, std_room, std_zeros, std_nilq, std_notq, std_eqi, std_eqn, std_eqb, std_eqs, std_eqv, std_cat, std_lst, std_rset, std_rcopy, std_shift, std_eqr, std_strOf, std_bytesOf, std_isB, std_zOf, zOf_int, std_isI, isI_int, std_getL, std_nmul, std_sOf, sOf_str, std_isS, isS_str, std_fadd, std_fsub, std_fav, std_fsv, std_feq, std_fne, std_flt, std_fle, std_fgt, std_fge, std_fOf, std_fTo, std_fTv] at hc; omega)
            | (exfalso; clear hstep; subst hA; rename_i q; simp [std_add, std_sub, std_mul, std_quo, std_rem, std_band, std_bor, std_bxor, std_shl, std_shr, std_eq, std_ne, std_lt, std_le, std_conv, std_not, std_beq, std_bne, std_ite, std_want, std_and2, std_sadd, std_seq, std_sne, std_slt, std_sle, std_sgt, std_sge, std_slen, std_sget, std_scut, std_ofNat, std_toNat, std_nsub, std_nadd, std_lenOf, std_nz, std_nneg, std_inb, std_upto, std_slt63, std_grow, std_imp, std_impN, std_tr, std_tb, std_ti, std_ts, std_tn, std_tp, std_nmin, std_makes, std_room, std_zeros, std_nilq, std_notq, std_eqi, std_eqn, std_eqb, std_eqs, std_eqv, std_cat, std_lst, std_rset, std_rcopy, std_shift, std_eqr, std_strOf, std_bytesOf, std_isB, std_zOf, zOf_int, std_isI, isI_int, std_getL, std_nmul, std_sOf, sOf_str, std_isS, isS_str, std_fadd, std_fsub, std_fav, std_fsv, std_feq, std_fne, std_flt, std_fle, std_fgt, std_fge, std_fOf, std_fTo, std_fTv] at q; omega)
            | (obtain ⟨i', hi'⟩ : ∃ i', i' = i + 1 := ⟨_, rfl⟩
               refine ⟨⟨i', by omega, hstep i' hi' (.inr hb)⟩, ?_, show 64 - i' < 64 - i by omega⟩
               cbv
               subst hA
               simp [std_add, std_sub, std_mul, std_quo, std_rem, std_band, std_bor, std_bxor, std_shl, std_shr, std_eq, std_ne, std_lt, std_le, std_conv, std_not, std_beq, std_bne, std_ite, std_want, std_and2, std_sadd, std_seq, std_sne, std_slt, std_sle, std_sgt, std_sge, std_slen, std_sget, std_scut, std_ofNat, std_toNat, std_nsub, std_nadd, std_lenOf, std_nz, std_nneg, std_inb, std_upto, std_slt63, std_grow, std_imp, std_impN, std_tr, std_tb, std_ti, std_ts, std_tn, std_tp, std_nmin, std_makes, std_room, std_zeros, std_nilq, std_notq, std_eqi, std_eqn, std_eqb, std_eqs, std_eqv, std_cat, std_lst, std_rset, std_rcopy, std_shift, std_eqr, std_strOf, std_bytesOf, std_isB, std_zOf, zOf_int, std_isI, isI_int, std_getL, std_nmul, std_sOf, sOf_str, std_isS, isS_str, std_fadd, std_fsub, std_fav, std_fsv, std_feq, std_fne, std_flt, std_fle, std_fgt, std_fge, std_fOf, std_fTo, std_fTv]
               exact w_succ hi' (by omega))
            | trace_state
    · have hno := tk_no (a := a) (b := b) fun j hj => hz0 j (by omega)
      clear hz0
      cbv
      repeat' (first | with_reducible exact True.intro | with_reducible exact dr_ok hA (by kernel_rfl) | with_reducible refine And.intro ?_ ?_ | (intro hc; cbv))
      all_goals first
        | (exfalso; subst hA; simp [std_add, std_sub, std_mul, std_quo, std_rem, std_band, std_bor, std_bxor, std_shl, std_shr, std_eq, std_ne, std_lt, std_le, std_conv, std_not, std_beq, std_bne, std_ite, std_want, std_and2, std_sadd, std_seq, std_sne, std_slt, std_sle, std_sgt, std_sge, std_slen, std_sget, std_scut, std_ofNat, std_toNat, std_nsub, std_nadd, std_lenOf, std_nz, std_nneg, std_inb, std_upto, std_slt63, std_grow, std_imp, std_impN, std_tr, std_tb, std_ti, std_ts, std_tn, std_tp, std_nmin, std_makes, std_room, std_zeros, std_nilq, std_notq, std_eqi, std_eqn, std_eqb, std_eqs, std_eqv, std_cat, std_lst, std_rset, std_rcopy, std_shift, std_eqr, std_strOf, std_bytesOf, std_isB, std_zOf, zOf_int, std_isI, isI_int, std_getL, std_nmul, std_sOf, sOf_str, std_isS, isS_str, std_fadd, std_fsub, std_fav, std_fsv, std_feq, std_fne, std_flt, std_fle, std_fgt, std_fge, std_fOf, std_fTo, std_fTv] at hc; omega)
        | (exfalso; subst hA; rename_i q; simp [std_add, std_sub, std_mul, std_quo, std_rem, std_band, std_bor, std_bxor, std_shl, std_shr, std_eq, std_ne, std_lt, std_le, std_conv, std_not, std_beq, std_bne, std_ite, std_want, std_and2, std_sadd, std_seq, std_sne, std_slt, std_sle, std_sgt, std_sge, std_slen, std_sget, std_scut, std_ofNat, std_toNat, std_nsub, std_nadd, std_lenOf, std_nz, std_nneg, std_inb, std_upto, std_slt63, std_grow, std_imp, std_impN, std_tr, std_tb, std_ti, std_ts, std_tn, std_tp, std_nmin, std_makes, std_room, std_zeros, std_nilq, std_notq, std_eqi, std_eqn, std_eqb, std_eqs, std_eqv, std_cat, std_lst, std_rset, std_rcopy, std_shift, std_eqr, std_strOf, std_bytesOf, std_isB, std_zOf, zOf_int, std_isI, isI_int, std_getL, std_nmul, std_sOf, sOf_str, std_isS, isS_str, std_fadd, std_fsub, std_fav, std_fsv, std_feq, std_fne, std_flt, std_fle, std_fgt, std_fge, std_fOf, std_fTo, std_fTv] at q; omega)
        | (exfalso; subst hA; rename_i q q2; simp [std_add, std_sub, std_mul, std_quo, std_rem, std_band, std_bor, std_bxor, std_shl, std_shr, std_eq, std_ne, std_lt, std_le, std_conv, std_not, std_beq, std_bne, std_ite, std_want, std_and2, std_sadd, std_seq, std_sne, std_slt, std_sle, std_sgt, std_sge, std_slen, std_sget, std_scut, std_ofNat, std_toNat, std_nsub, std_nadd, std_lenOf, std_nz, std_nneg, std_inb, std_upto, std_slt63, std_grow, std_imp, std_impN, std_tr, std_tb, std_ti, std_ts, std_tn, std_tp, std_nmin, std_makes, std_room, std_zeros, std_nilq, std_notq, std_eqi, std_eqn, std_eqb, std_eqs, std_eqv, std_cat, std_lst, std_rset, std_rcopy, std_shift, std_eqr, std_strOf, std_bytesOf, std_isB, std_zOf, zOf_int, std_isI, isI_int, std_getL, std_nmul, std_sOf, sOf_str, std_isS, isS_str, std_fadd, std_fsub, std_fav, std_fsv, std_feq, std_fne, std_flt, std_fle, std_fgt, std_fge, std_fOf, std_fTo, std_fTv] at q; omega)
        | (subst hA; simp [std_add, std_sub, std_mul, std_quo, std_rem, std_band, std_bor, std_bxor, std_shl, std_shr, std_eq, std_ne, std_lt, std_le, std_conv, std_not, std_beq, std_bne, std_ite, std_want, std_and2, std_sadd, std_seq, std_sne, std_slt, std_sle, std_sgt, std_sge, std_slen, std_sget, std_scut, std_ofNat, std_toNat, std_nsub, std_nadd, std_lenOf, std_nz, std_nneg, std_inb, std_upto, std_slt63, std_grow, std_imp, std_impN, std_tr, std_tb, std_ti, std_ts, std_tn, std_tp, std_nmin, std_makes, std_room, std_zeros, std_nilq, std_notq, std_eqi, std_eqn, std_eqb, std_eqs, std_eqv, std_cat, std_lst, std_rset, std_rcopy, std_shift, std_eqr, std_strOf, std_bytesOf, std_isB, std_zOf, zOf_int, std_isI, isI_int, std_getL, std_nmul, std_sOf, sOf_str, std_isS, isS_str, std_fadd, std_fsub, std_fav, std_fsv, std_feq, std_fne, std_flt, std_fle, std_fgt, std_fge, std_fOf, std_fTo, std_fTv, hno] at *; done)
        | trace_state
noncomputable def c_rTick : Ct := fun A args => match args with
  | [.cpx a b] => some (none, .int .i64 (A.ti fun _ => tk a b))
  | _ => none
noncomputable def gw1 : Ar → Pu := addC 10 c_rTick (gz6)
theorem gw1_ok : PuOk Try.prog gl0 (gw1 std) := by
  refine addC_ok (gz6_ok) ⟨_, Try.func10, rfl, by decide⟩ ?_
  · intro args p r h hp
    unfold c_rTick at h
    split at h <;> cases h
    exact good_rTick _ _
end Go.Vd

