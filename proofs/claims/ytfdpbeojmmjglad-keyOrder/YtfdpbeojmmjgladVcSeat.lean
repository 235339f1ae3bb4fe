/- What a program's own tables must give: types, callees; and the way back from a contract to a call. -/
import Derived.Test.YtfdpbeojmmjgladVcFn
import Derived.Laws.StructEq
import Derived.KernelRfl
set_option linter.unusedVariables false
namespace Go.Vc
open Go.RowKit

theorem TyOk.mk' {P : Program} {t : Nat} {ty : Ty} (d : TypeDesc) (zc : List Value) (hi : (P.info? t).map (fun i => (i.size, i.zero.map fun z => z.cells.toList)) = some (ty.size, some zc))
    (hd : P.underlying t = some d) (h0 : 0 < ty.size) (ha : aggDesc d = ty.agg) (h1 : ty.agg = false → ty.size = 1) (hz : ofCells zc = ty.zero) (ho : zc.all Value.oneCell' = true) (hl : zc.length = ty.size)
    (htag : TagOk P t d ty.zero ty.tag) : TyOk P t ty := by
  cases e : P.info? t with
  | none => rw [e] at hi; cases hi
  | some i =>
    rw [e] at hi
    simp only [Option.map_some, Option.some.injEq, Prod.mk.injEq] at hi
    obtain ⟨h2, h3⟩ := hi
    cases e2 : i.zero with
    | none => rw [e2] at h3; cases h3
    | some z =>
      rw [e2] at h3
      simp only [Option.map_some, Option.some.injEq] at h3
      subst h3
      exact ⟨i, d, z, e, hd, h2, h0, ha, h1, e2, hz, fun v hv => List.all_eq_true.1 ho v hv, by rw [h2, ← hl]; simp, htag⟩

theorem tag_struct {P : Program} {fs : Array Field} {places : List (Nat × Nat)} (h : fs.toList.map (fun f => (P.info? f.type).map fun j => (f.offset, j.size)) = places.map some) :
    ∃ fs' : Array Field, TypeDesc.struct fs = .struct fs' ∧ fs'.size = places.length ∧ ∀ i : Nat, nth places i = (fs'[i]?).bind fun f => (P.info? f.type).map fun j => (f.offset, j.size) := by
  refine ⟨fs, rfl, ?_, fun i => ?_⟩
  · have := congrArg List.length h
    simpa using this
  · have hn : ∀ (l : List (Nat × Nat)) (i : Nat), nth l i = l[i]? := by
      intro l
      induction l with
      | nil => intro i; rfl
      | cons x l ih => intro i; cases i with
        | zero => rfl
        | succ i => simpa [nth] using ih i
    rw [hn]
    have h2 := congrArg (fun l => l[i]?) h
    simp only [List.getElem?_map] at h2
    rw [← Array.getElem?_toList]
    cases e1 : fs.toList[i]? with
    | none => cases e2 : places[i]? with
      | none => rfl
      | some p => rw [e1, e2] at h2; cases h2
    | some f => cases e2 : places[i]? with
      | none => rw [e1, e2] at h2; cases h2
      | some p => rw [e1, e2] at h2; simpa using h2.symm

theorem tag_slice {P : Program} {e k b : Nat} (hi : (P.info? e).map (fun i => (i.size, i.bytes, i.zero.map fun z => z.cells.size)) = some (k, b, some k)) :
    ∃ (i : TypeInfo) (z : Value), P.info? e = some i ∧ i.size = k ∧ i.bytes = b ∧ i.zero = some z ∧ z.cells.size = k := by
  cases h : P.info? e with
  | none => rw [h] at hi; cases hi
  | some i =>
    rw [h] at hi
    simp only [Option.map_some, Option.some.injEq, Prod.mk.injEq] at hi
    obtain ⟨h2, h3, h4⟩ := hi
    cases e2 : i.zero with
    | none => rw [e2] at h4; cases h4
    | some z =>
      rw [e2] at h4
      simp only [Option.map_some, Option.some.injEq] at h4
      exact ⟨i, z, rfl, h2, h3, e2, h4⟩

/-! ### Structs of plain fields -/
inductive Plain (P : Program) : Nat → List Field → List SV → Prop
  | nil {n} : Plain P n [] []
  | int {n f l z k a} (hn : f.name ≠ "_") (ho : f.offset = n) (hd : P.underlying f.type = some (.int k)) (hr : Plain P (n + 1) l z) : Plain P n (f :: l) (.int k a :: z)
  | bool {n f l z a} (hn : f.name ≠ "_") (ho : f.offset = n) (hd : P.underlying f.type = some .bool) (hr : Plain P (n + 1) l z) : Plain P n (f :: l) (.bool a :: z)
  | str {n f l z a} (hn : f.name ≠ "_") (ho : f.offset = n) (hd : P.underlying f.type = some .string) (hr : Plain P (n + 1) l z) : Plain P n (f :: l) (.str a :: z)

theorem run_part_one {P : Program} {t : TypeId} {d : TypeDesc} (hd : P.underlying t = some d) (ha : aggDesc d = false) {xs : Array Value} {off : Nat} {v : Value} (hx : xs[off]? = some v) (w : World) : (part t xs off).run P w = .ok v w := by
  simp [part, run_isAgg hd w, ha, hx]

theorem eqFields_cons {P : Program} (w : World) {D : Nat} {xs ys : Array Value} {f : Field} {fs : List Field} {d : TypeDesc} (hn : f.name ≠ "_") (hd : P.underlying f.type = some d) (hag : aggDesc d = false)
    {v u : Value} (hv : xs[f.offset]? = some v) (hu : ys[f.offset]? = some u) {b r : Bool} (he : (Op.equalIn (D + 1) f.type v u).run P w = .ok b w) (ht : (Op.eqFields (D + 1) xs ys fs).run P w = .ok r w) :
    (Op.eqFields (D + 1) xs ys (f :: fs)).run P w = .ok (b && r) w := by
  simp only [Op.eqFields, hn, ne_eq, not_false_eq_true, if_true, Sem.run_bind, run_part_one hd hag hv, run_part_one hd hag hu, Result.andThen_ok, he, Sem.run_ite]
  cases b
  · simp
  · simpa using ht

theorem drop_cons {l : List Value} {n : Nat} {v : Value} {r : List Value} (h : l.drop n = v :: r) : l[n]? = some v ∧ l.drop (n + 1) = r := by
  constructor
  · rw [← List.head?_drop, h]; rfl
  · rw [← List.tail_drop, h]; rfl

theorem run_eqFields_plain {P : Program} (w : World) {D : Nat} {xs ys : Array Value} : ∀ {n : Nat} {fs : List Field} {z : List SV}, Plain P n fs z → ∀ {l m : List SV} {r : Bool}, shapes z l = true → shapes z m = true →
    All2 cellIs (xs.toList.drop n) l → All2 cellIs (ys.toList.drop n) m → cellsEq std l m = some r → (Op.eqFields (D + 1) xs ys fs).run P w = .ok r w := by
  intro n fs z hp
  induction hp with
  | nil =>
    intro l m r hl hm _ _ h
    cases l with
    | nil => cases m with
      | nil => simp only [cellsEq, Option.some.injEq] at h; subst h; simp [Op.eqFields]
      | cons y m => simp [shapes] at hm
    | cons x l => simp [shapes] at hl
  | @int n f fs z k a hn ho hd hr ih =>
    intro l m r hl hm hx hy h
    match l, m, hl, hm, hx, hy, h with
    | .int k1 a1 :: l, .int k2 a2 :: m, hl, hm, hx, hy, h =>
      simp only [shapes, Bool.and_eq_true] at hl hm
      obtain rfl := kindEq_spec hl.1
      obtain rfl := kindEq_spec hm.1
      match ex : xs.toList.drop n, ey : ys.toList.drop n, hx, hy with
      | .int k3 a3 :: xl, .int k4 a4 :: yl, hx, hy =>
        obtain ⟨⟨rfl, rfl⟩, hx2⟩ := hx
        obtain ⟨⟨rfl, rfl⟩, hy2⟩ := hy
        obtain ⟨hv, hxl⟩ := drop_cons ex
        obtain ⟨hu, hyl⟩ := drop_cons ey
        simp only [cellsEq] at h
        split at h
        · rename_i r' hr'
          cases h
          exact eqFields_cons w hn hd rfl (by rw [ho, ← Array.getElem?_toList]; exact hv) (by rw [ho, ← Array.getElem?_toList]; exact hu) (run_equalIn_int w _ _ _ _ _ _ hd) (ih hl.2 hm.2 (by rw [hxl]; exact hx2) (by rw [hyl]; exact hy2) hr')
        · cases h
  | @bool n f fs z a hn ho hd hr ih =>
    intro l m r hl hm hx hy h
    match l, m, hl, hm, hx, hy, h with
    | .bool a1 :: l, .bool a2 :: m, hl, hm, hx, hy, h =>
      simp only [shapes] at hl hm
      match ex : xs.toList.drop n, ey : ys.toList.drop n, hx, hy with
      | .bool a3 :: xl, .bool a4 :: yl, hx, hy =>
        obtain ⟨rfl, hx2⟩ := hx
        obtain ⟨rfl, hy2⟩ := hy
        obtain ⟨hv, hxl⟩ := drop_cons ex
        obtain ⟨hu, hyl⟩ := drop_cons ey
        simp only [cellsEq] at h
        split at h
        · rename_i r' hr'
          cases h
          exact eqFields_cons w hn hd rfl (by rw [ho, ← Array.getElem?_toList]; exact hv) (by rw [ho, ← Array.getElem?_toList]; exact hu) (run_equalIn_bool' w _ _ _ _ hd) (ih hl hm (by rw [hxl]; exact hx2) (by rw [hyl]; exact hy2) hr')
        · cases h
  | @str n f fs z a hn ho hd hr ih =>
    intro l m r hl hm hx hy h
    match l, m, hl, hm, hx, hy, h with
    | .str a1 :: l, .str a2 :: m, hl, hm, hx, hy, h =>
      simp only [shapes] at hl hm
      match ex : xs.toList.drop n, ey : ys.toList.drop n, hx, hy with
      | .string a3 :: xl, .string a4 :: yl, hx, hy =>
        obtain ⟨rfl, hx2⟩ := hx
        obtain ⟨rfl, hy2⟩ := hy
        obtain ⟨hv, hxl⟩ := drop_cons ex
        obtain ⟨hu, hyl⟩ := drop_cons ey
        simp only [cellsEq] at h
        split at h
        · rename_i r' hr'
          cases h
          refine eqFields_cons w hn hd rfl (by rw [ho, ← Array.getElem?_toList]; exact hv) (by rw [ho, ← Array.getElem?_toList]; exact hu) ?_ (ih hl hm (by rw [hxl]; exact hx2) (by rw [hyl]; exact hy2) hr')
          rw [run_equalIn_string w _ _ _ _ hd]
          simp [std, ByteArray.toList_eq]
        · cases h

theorem eqOk_plain {P : Program} {t : Nat} {fs : Array Field} {z : List SV} (hg : P.eqGuardType P.depth t = false) (ht : P.underlying t = some (.struct fs)) (hs : P.stoodInHeld t = false) (hp : Plain P 0 fs.toList z) : EqOk P t z := by
  refine ⟨hg, fun w xs ys l m r hl hm hx hy h => ?_⟩
  have hfo : P.fieldsOf t = fs := by simp [Program.fieldsOf, ht]
  rw [run_equalIn_agg w 9999 t _ _ (by rw [hfo]; exact ht) hs, hfo]
  exact run_eqFields_plain w hp hl hm (by simpa using hx) (by simpa using hy) h

/-- The same, its leaves and its answer behind names. -/
theorem fn_sound' {P : Program} {T : Tys} {G : Pu} (hT : TysOk P T) (hG : PuOk P G) (hm : P.follows .mixedOrders = true) {f : FuncId} {fn : Func} (hf : P.funcs[f]? = some fn) {args : List SV} {r : SV}
    (h : ∀ (A : Ar) (q : SV), A = std → q = r → vcFn A T G fn args fun x => x = q) : GoodP P f args r :=
  fn_sound hT hG hm hf (h std r rfl rfl)

theorem good_slc {P : Program} {f : FuncId} {n k : Nat} {g g' : Nat → Nat → SV} {r : SV} (hg : ∀ i j, i < n → j < k → g i j = g' i j) (h : GoodP P f [.slc n k g'] r) : GoodP P f [.slc n k g] r := by
  intro w ρ rw N vs hfr hrw hargs
  refine h w ρ rw N vs hfr hrw ?_
  match vs, hargs with
  | [v], hargs =>
    refine ⟨?_, trivial⟩
    have h1 := hargs.1
    cases h1 with
    | slc a _ c _ _ g2 hn hc ha hr => exact .slc a n c k g' g2 hn hc ha fun i j hi hj => by rw [← hg i j hi hj]; exact hr i j hi hj

/-- From a contract to the call. -/
theorem good_bool {P : Program} {f : FuncId} {args : List SV} {b : Bool} (h : GoodP P f args (.bool b)) {w : World} {vs : List Value} (hargs : All2 (Rel w (fun _ => undef) (fun _ => False) (fun _ => False)) vs args) :
    Calls P f vs.toArray w fun e w' => e = .returned (.bool b) ∧ Ext w w' := by
  refine (h w (fun _ => undef) (fun _ => False) (fun _ => False) vs ⟨0, fun h => h⟩ (fun _ h => h.elim) hargs).mono fun e w' hq => ?_
  obtain ⟨v, rfl, hext, hr⟩ := hq
  have h0 := hr 0 (fun h => h)
  have h1 : Rel w' (fun _ => undef) (fun _ => False) (fun _ => False) v (.bool b) := h0
  rw [h1.eq_bool]
  exact ⟨rfl, hext⟩
end Go.Vc
