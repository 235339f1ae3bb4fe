/- Deals: the law DealBytes. -/
import Derived.Test.YtakcggldilbilaaGreatDoorVdO4
import Derived.Test.YtakcggldilbilaaGreatDoorVdMM
import Derived.Test.YtakcggldilbilaaGreatDoorVdKM
import Derived.Test.YtakcggldilbilaaGreatDoorVdSimp
set_option linter.unusedVariables false
set_option linter.unusedSimpArgs false
set_option maxRecDepth 100000
set_option maxHeartbeats 8000000
namespace Go.Vd
open Go.Proofs
theorem xor8 (x : UInt8) {b : Int} (hb : 0 ≤ b ∧ b < 256) : ∃ y : UInt8, bits .xor .u8 (x.toNat : Int) b = (y.toNat : Int) ∧ (y = x ↔ b = 0) := by
  obtain ⟨n, rfl⟩ : ∃ n : Nat, b = n := ⟨b.toNat, by omega⟩
  have hn : n < 256 := by omega
  have hx := UInt8.toNat_lt x
  have hlt : x.toNat ^^^ n < 256 := Nat.xor_lt_two_pow (n := 8) (by omega) (by omega)
  refine ⟨UInt8.ofNat (x.toNat ^^^ n), ?_, ?_⟩
  · have h1 : (UInt8.ofNat (x.toNat ^^^ n)).toNat = x.toNat ^^^ n := by rw [UInt8.toNat_ofNat']; omega
    rw [h1]
    have h2 : (BitVec.ofInt 8 (x.toNat : Int) ^^^ BitVec.ofInt 8 (n : Int)).toNat = x.toNat ^^^ n := by
      rw [BitVec.toNat_xor]
      simp only [BitVec.ofInt_natCast, BitVec.toNat_ofNat]
      rw [Nat.mod_eq_of_lt (by omega), Nat.mod_eq_of_lt (by omega)]
    show IntKind.u8.wrap ((BitVec.ofInt 8 (x.toNat : Int) ^^^ BitVec.ofInt 8 (n : Int)).toNat : Int) = _
    rw [h2]
    unfold IntKind.wrap
    simp [IntKind.signed, IntKind.bits]
    omega
  · constructor
    · intro h
      have h1 := congrArg UInt8.toNat h
      rw [UInt8.toNat_ofNat', Nat.mod_eq_of_lt hlt] at h1
      have h2 : x.toNat ^^^ (x.toNat ^^^ n) = x.toNat ^^^ x.toNat := by rw [h1]
      rw [← Nat.xor_assoc, Nat.xor_self, Nat.zero_xor] at h2
      omega
    · intro h
      have : n = 0 := by omega
      subst this
      rw [Nat.xor_zero, UInt8.ofNat_toNat]
theorem cat0 (g f : Nat → Nat → SV) : catS 0 g f = f := by funext i j; simp [catS]
theorem rowB_at (B : List UInt8) (j : Nat) : rowF eB 0 std (fun _ => B) j 0 = .int .u8 ((B.getD j 0).toNat : Int) := rfl
theorem set_reps (B : List UInt8) {j : Nat} (hj : j < B.length) {z : Int} {y : UInt8} (hz : z = y.toNat) : Reps eB 0 1 B.length (rsetS (rowF eB 0 std fun _ => B) j 0 [SV.int .u8 z]) (B.set j y) :=
  (Reps.lit B).rset' hj y rfl (cell_eB hz)
theorem set_iff {B : List UInt8} {j : Nat} (hj : j < B.length) {y : UInt8} : B.set j y = B ↔ y = B.getD j 0 := by
  have e : B.getD j 0 = B[j] := by rw [List.getD_eq_getElem?_getD, List.getElem?_eq_getElem hj]; rfl
  rw [e]
  constructor
  · intro h
    have := congrArg (·[j]?) h
    simpa [hj] using this
  · rintro rfl
    exact List.set_getElem_self hj
theorem body_sum {L : List It} (h : ∀ x ∈ L, rr x.1 x.2 = true) : (body L).length ≤ (L.map fun x => x.2.length + 3).sum := by
  induction L with
  | nil => simp [body]
  | cons x L ih =>
    rw [body_cons, List.length_append, List.map_cons, List.sum_cons]
    have h1 := fWr_len (h x (by simp))
    have := ih fun y hy => h y (List.mem_cons_of_mem _ hy)
    omega
theorem dB_len {k a s : Int} {p r c : List UInt8} (h : dR k a s p r c = true) (ha : 0 ≤ a) (hs : 0 ≤ s) : 12 ≤ (mW (tyOf k) (dIs k a s p r c)).length ∧ (mW (tyOf k) (dIs k a s p r c)).length ≤ 200 := by
  have hR := dIs_R h ha hs
  have hi := mR_iff.1 hR
  refine ⟨mW_ne hR, ?_⟩
  obtain ⟨b1, b2, b3, b4, b5, b6⟩ := bof_ups hi.2.2.2 (fs_bf hi.2.2.1)
  have hbb := bb_len b2
  have hT := mT_len hi.1
  have hl := dR_len h
  obtain ⟨q1, q2, q3, q4, q5, q6⟩ := dR_parts h ha hs
  have l11 := (rr11.1 q2).1
  have l90 := (rr90.1 q5).1
  have hs := body_sum hi.2.2.1
  have hbits : (mBits (dIs k a s p r c)).length ≤ 16 := by unfold mBits; rw [hbb]; split <;> omega
  have hsum : ((dIs k a s p r c).map fun x => x.2.length + 3).sum ≤ 120 := by
    unfold dIs
    split
    · rename_i e
      have l4 := (rr4.1 (q6 (asks_tl e)).2.1).1
      simp
      omega
    · split
      · rename_i e
        have l4 := (rr4.1 (q6 e).2.1).1
        simp
        omega
      · simp
        omega
  unfold mW
  rw [List.length_append, List.length_append]
  omega
theorem db_iff {k a s : Int} {p r c : List UInt8} (hd : dR k a s p r c = true) (ha : 0 ≤ a) (hs : 0 ≤ s) {B : List UInt8} (h : mRe B = 0) :
    (dE (mRT B) (mRL B) = 0 ∧ xK (mRT B) (mRL B) = k ∧ xP (mRT B) (mRL B) = p ∧ xA (mRT B) (mRL B) = a ∧ xS (mRT B) (mRL B) = s ∧ xR (mRT B) (mRL B) = r ∧ xC (mRT B) (mRL B) = c) ↔ B = mW (tyOf k) (dIs k a s p r c) := by
  have g := mR_good h
  constructor
  · rintro ⟨h1, h2, h3, h4, h5, h6, h7⟩
    have q := d_good h1
    rw [h2, h3, h4, h5, h6, h7] at q
    rw [q.2.1, q.2.2.1]
    exact g.2.symm
  · intro e
    have hR := dIs_R hd ha hs
    have hb := mR_back hR
    have b := d_back hd ha hs
    rw [e, hb.2.1, hb.2.2]
    exact ⟨b.1, b.2.1, b.2.2.2.2.1, b.2.2.1, b.2.2.2.1, b.2.2.2.2.2.1, b.2.2.2.2.2.2⟩
end Go.Vd

set_option linter.unusedVariables false
set_option linter.unusedSimpArgs false
set_option maxRecDepth 100000
set_option maxHeartbeats 4000000
namespace Go.Vd
open Go.Proofs
def sKey (A : Ar) (s : Int) (r : List UInt8) : SV := .agg [.int .u32 s, .str r]
noncomputable def gk1 : Ar → Pu := gm3
theorem gk1_ok : PuOk Tryz.prog gl0 (gk1 std) := by
  refine gm3_ok
def orInts (A : Ar) (L : Unit → List Int) : SV := rowS eZ 0 1 A L
noncomputable def gk2 : Ar → Pu := gk1
theorem gk2_ok : PuOk Tryz.prog gl0 (gk2 std) := by
  refine gk1_ok
theorem q2 (x y : Int) : Reps eZ 0 1 2 (lstS [[SV.int .i64 x], [SV.int .i64 y]]) [x, y] := Reps.lst (l := [_, _]) (L := [x, y]) ⟨cell_eZ x, cell_eZ y, trivial⟩
theorem good_kOf (a c s : Int) (p r e : List UInt8) : GoodP Tryz.prog gl0 39 [.agg [.int .i64 a, .str p, .int .u64 c, .int .u32 s, .str r, .str e]] (sKey std s r) := by
  refine fn_sound' (T := seatT) (G := noC) (X := noX) seatT_ok noC_ok noX_ok noI_ok mixed Tryz.func39 (.one) (fun A => [.agg [.int .i64 a, .str p, .int .u64 c, .int .u32 s, .str r, .str e]]) (fun A => sKey A s r) fun A hA => ?_
  cbv
  repeat' (first | with_reducible exact True.intro | with_reducible exact dr_ok hA (by kernel_rfl) | with_reducible refine And.intro ?_ ?_ | (intro hc; cbv))
  all_goals (subst hA; simp [sS] at *)
theorem good_dShort (a c s : Int) (p r e : List UInt8) : GoodP Tryz.prog gl0 18 [.agg [.int .i64 a, .str p, .int .u64 c, .int .u32 s, .str r, .str e]] (.bool (std.tb fun _ => decide (p.length ≤ 300 ∧ r.length ≤ 300 ∧ e.length ≤ 300))) := by
  refine fn_sound' (T := seatT) (G := noC) (X := noX) seatT_ok noC_ok noX_ok noI_ok mixed Tryz.func18 (.one) (fun A => [.agg [.int .i64 a, .str p, .int .u64 c, .int .u32 s, .str r, .str e]]) (fun A => .bool (A.tb fun _ => decide (p.length ≤ 300 ∧ r.length ≤ 300 ∧ e.length ≤ 300))) fun A hA => ?_
  cbv
  repeat' (first | with_reducible exact True.intro | with_reducible exact dr_ok hA (by kernel_rfl) | with_reducible refine And.intro ?_ ?_ | (intro hc; cbv))
  all_goals (subst hA; simp [sS] at *)
  all_goals first
    | (rw [Bool.eq_iff_iff]; simp; omega)
    | (intro _ _; constructor <;> assumption)
    | trace_state
theorem good_kRight (s : Int) (r : List UInt8) : GoodP Tryz.prog gl0 62 [sKey std s r] (.bool (std.tb fun _ => keyOk s r)) := by
  refine fn_sound' (T := seatT) (G := noC) (X := noX) seatT_ok noC_ok noX_ok noI_ok mixed Tryz.func62 (.one) (fun A => [sKey A s r]) (fun A => .bool (A.tb fun _ => keyOk s r)) fun A hA => ?_
  cbv
  repeat' (first | with_reducible exact True.intro | with_reducible exact dr_ok hA (by kernel_rfl) | with_reducible refine And.intro ?_ ?_ | (intro hc; cbv))
  rotate_right
  · have h0 : s ≤ 999999 ∧ r.length = 12 := by subst hA; simp [sS] at *; omega
    refine ⟨⟨{i : Nat // i ≤ r.length ∧ (r.take i).all okB = true}, fun b i => [(16, .int .i64 (i.1 : Nat))], fun b i => [], fun i => r.length - i.1, true⟩, ⟨⟨0, by omega, by simp⟩, ?_⟩, ?_⟩
    · cbv
      subst hA
      simp [-List.getD_eq_getElem?_getD, sS]
    · rintro ⟨i, hi, hz⟩
      cbv
      repeat' (first | with_reducible exact True.intro | with_reducible exact dr_ok hA (by kernel_rfl) | with_reducible refine And.intro ?_ ?_ | (intro hc; cbv))
      all_goals first
        | (fail_if_success (refine Exists.intro ?_ ?_)
           subst hA
           simp [-List.getD_eq_getElem?_getD, sS, gD] at *
           done)
        | (fail_if_success (refine Exists.intro ?_ ?_)
           subst hA
           simp [-List.getD_eq_getElem?_getD, sS, gD] at *
           first
             | omega
             | (constructor <;> omega)
             | (have hlt : i < r.length := by omega
                have hx : okB (r.getD i 0) = false := by (simp [-List.getD_eq_getElem?_getD, okB]; omega)
                rw [keyOk, all_false hlt hx]; simp; done)
             | (have hie : i = r.length := by omega
                subst hie
                rw [List.take_of_length_le (Nat.le_refl _)] at hz
                simp [keyOk, h0]; exact hz)
             | trace_state)
        | (have hlt : i < r.length := by clear hz; subst hA; simp [sS] at *; omega
           have hx : okB (r.getD i 0) = true := by
             clear hz
             subst hA
             simp [-List.getD_eq_getElem?_getD, sS, gD] at *
             simp [-List.getD_eq_getElem?_getD, okB]
             omega
           refine ⟨⟨i + 1, by omega, by rw [all_take hlt, hz, hx]; rfl⟩, ?_, show r.length - (i + 1) < r.length - i by omega⟩
           cbv
           subst hA
           simp [sS]
           exact w64 (by omega))
        | trace_state
  all_goals (subst hA; simp [sS] at *)
  all_goals (rw [Bool.eq_false_iff]; intro h; simp [keyOk] at h; omega)
theorem keyOk_le {s : Int} {r : List UInt8} (h : keyOk s r = true) : s ≤ 999999 ∧ r.length = 12 := by
  simp [keyOk] at h
  exact ⟨h.1, h.2.1⟩
noncomputable def c_kRight : Ct := fun A args => match args with
  | [.agg [.int .u32 s, .str r]] => some (none, .bool (A.tb fun _ => keyOk s r))
  | _ => none
noncomputable def c_kOf : Ct := fun A args => match args with
  | [.agg [.int .i64 a, .str p, .int .u64 c, .int .u32 s, .str r, .str e]] => some (none, .agg [.int .u32 s, .str r])
  | _ => none
noncomputable def c_dShort : Ct := fun A args => match args with
  | [.agg [.int .i64 a, .str p, .int .u64 c, .int .u32 s, .str r, .str e]] => some (none, .bool (A.tb fun _ => decide (p.length ≤ 300 ∧ r.length ≤ 300 ∧ e.length ≤ 300)))
  | _ => none
noncomputable def c_dRight : Ct := fun A args => match args with
  | [.agg [.int .i64 k, .str p, .int .u64 a, .int .u32 s, .str r, .str c]] => some (some (A.tp fun _ => p.length ≤ 100000 ∧ r.length ≤ 1000000 ∧ c.length ≤ 1000000), .bool (A.tb fun _ => dR k a s p r c))
  | _ => none
noncomputable def gk8 : Ar → Pu := addC 62 c_kRight (addC 39 c_kOf (addC 18 c_dShort (addC 21 c_dRight (gk2))))
theorem gk8_ok : PuOk Tryz.prog gl0 (gk8 std) := by
  refine addC_ok (addC_ok (addC_ok (addC_ok (gk2_ok) ⟨_, Tryz.func21, rfl, by decide⟩ ?_) ⟨_, Tryz.func18, rfl, by decide⟩ ?_) ⟨_, Tryz.func39, rfl, by decide⟩ ?_) ⟨_, Tryz.func62, rfl, by decide⟩ ?_
  · intro args p r h hp
    unfold c_dRight at h
    split at h <;> cases h
    exact good_dRight _ _ _ _ _ _ hp.1 hp.2.1 hp.2.2
  · intro args p r h hp
    unfold c_dShort at h
    split at h <;> cases h
    exact good_dShort _ _ _ _ _ _
  · intro args p r h hp
    unfold c_kOf at h
    split at h <;> cases h
    exact good_kOf _ _ _ _ _ _
  · intro args p r h hp
    unfold c_kRight at h
    split at h <;> cases h
    exact good_kRight _ _
end Go.Vd

set_option linter.unusedVariables false
set_option linter.unusedSimpArgs false
set_option maxRecDepth 100000
set_option maxHeartbeats 4000000
namespace Go.Vd
open Go.Proofs
structure Ent where
  s : Int
  r : List UInt8
  st : Int
  pan : List UInt8
  am : Int
  code : List UInt8
  tr : Int
  ca : Int
  deriving DecidableEq
structure Dl where
  k : Int
  pan : List UInt8
  am : Int
  s : Int
  r : List UInt8
  code : List UInt8
  deriving DecidableEq
def E0 : Ent := ⟨0, [], 0, [], 0, [], 0, 0⟩
def D0 : Dl := ⟨0, [], 0, 0, [], []⟩
def unT (e : Ent) : Bool := decide (e.tr = 0) && decide (e.ca = 0)
def tuR (e : Ent) : Bool := (decide (e.ca = 1) || decide (e.ca = 2)) && (decide (0 ≤ e.tr) && decide (e.tr ≤ 16))
def eSt (e : Ent) : Bool :=
  if e.st = 1 then decide (e.code = []) && unT e else if e.st = 2 then decide (e.code = [48, 48]) && unT e
  else if e.st = 3 then decide (¬e.code = [48, 48]) && (rr 39 e.code && unT e) else if e.st = 4 ∨ e.st = 5 ∨ e.st = 6 then rr 39 e.code && tuR e else false
def eR (e : Ent) : Bool := keyOk e.s e.r && (decide ((e.pan.length : Int) ≤ 19) && (lFine e.pan && (decide (e.am < 1000000000000) && eSt e)))
theorem eR_no {s st am tr ca : Int} {r pan code : List UInt8} (hc : ((keyOk s r = false ∨ (19 : Int) < (pan.length : Int)) ∨ lFine pan = false) ∨ 1000000000000 ≤ am) : eR ⟨s, r, st, pan, am, code, tr, ca⟩ = false := by
  rw [Bool.eq_false_iff]
  intro h
  simp only [eR, Bool.and_eq_true, decide_eq_true_eq] at h
  rcases hc with ((hc | hc) | hc) | hc
  · rw [hc] at h; cases h.1
  · omega
  · rw [hc] at h; cases h.2.2.1
  · omega
theorem eR_st {e : Ent} (h : ((keyOk e.s e.r = true ∧ (e.pan.length : Int) ≤ 19) ∧ lFine e.pan = true) ∧ e.am < 1000000000000) : eR e = eSt e := by
  unfold eR
  rw [h.1.1.1, decide_eq_true h.1.1.2, h.1.2, decide_eq_true h.2]
  rfl
noncomputable def gc1 : Ar → Pu := gk8
theorem gc1_ok : PuOk Tryz.prog gl0 (gc1 std) := by
  refine gk8_ok
noncomputable def gc2 : Ar → Pu := gc1
theorem gc2_ok : PuOk Tryz.prog gl0 (gc2 std) := by
  refine gc1_ok
end Go.Vd

set_option linter.unusedVariables false
set_option linter.unusedSimpArgs false
set_option maxRecDepth 100000
set_option maxHeartbeats 4000000
namespace Go.Vd
open Go.Proofs
theorem fParse_inv (n : Nat) : ∀ L : List UInt8, L.length = n → (fParse L).2.2 = false → L = ((fParse L).1.map fPutL).flatten ++ (fParse L).2.1 ∧ ∀ t ∈ (fParse L).1, 1 ≤ t.length ∧ t.length ≤ 2048 := by
  induction n using Nat.strongRecOn with
  | _ n ih =>
    intro L hL hb
    by_cases h0 : L.length < 2
    · rw [fParse_short h0]; simp
    · cases h1 : fMay (fLen L) with
      | false => rw [fParse_bad h0 h1] at hb; cases hb
      | true =>
        by_cases h2 : L.length < 2 + fLen L
        · rw [fParse_part h0 h1 h2]; simp
        · rw [fParse_more h0 h1 h2] at hb ⊢
          have hm := fMay_iff.1 h1
          have h := ih (L.drop (2 + fLen L)).length (by rw [List.length_drop]; omega) _ rfl hb
          have hl : ((L.drop 2).take (fLen L)).length = fLen L := by rw [List.length_take, List.length_drop]; omega
          refine ⟨?_, fun t ht => ?_⟩
          · rw [List.map_cons, List.flatten_cons, List.append_assoc, ← h.1]
            unfold fPutL
            rw [hl]
            match L, h0 with
            | x :: y :: T, _ =>
              have hx : UInt8.ofNat (fLen (x :: y :: T) / 256) = x := by
                apply UInt8.toNat.inj
                have h1 := x.toNat_lt
                have h2 := y.toNat_lt
                rw [UInt8.toNat_ofNat']
                show (256 * x.toNat + y.toNat) / 256 % 256 = x.toNat
                omega
              have hy : UInt8.ofNat (fLen (x :: y :: T)) = y := by
                apply UInt8.toNat.inj
                have h1 := x.toNat_lt
                have h2 := y.toNat_lt
                rw [UInt8.toNat_ofNat']
                show (256 * x.toNat + y.toNat) % 256 = y.toNat
                omega
              rw [hx, hy]
              have hd : (x :: y :: T).drop (2 + fLen (x :: y :: T)) = T.drop (fLen (x :: y :: T)) := by rw [Nat.add_comm]; rfl
              rw [hd]
              show x :: y :: T = [x, y] ++ T.take (fLen (x :: y :: T)) ++ T.drop (fLen (x :: y :: T))
              rw [List.append_assoc, List.take_append_drop]
              rfl
            | [_], h => simp at h
            | [], h => simp at h
          · rcases List.mem_cons.1 ht with rfl | ht
            · rw [hl]; exact hm
            · exact h.2 t ht
/-- A letter of one frame. -/
def opOk (B : List UInt8) : Bool := decide ((fFeed [] false B).e = 0 ∧ (fFeed [] false B).told.length = 1 ∧ (fFeed [] false B).rest = [])
def opM (B : List UInt8) : List UInt8 := (fFeed [] false B).told.getD 0 []
theorem ok0 : fOk [] false = true := by decide
theorem op_put {M : List UInt8} (h1 : 1 ≤ M.length) (h2 : M.length ≤ 2048) : opOk (fPutL M) = true ∧ opM (fPutL M) = M := by
  have h := fParse_put (L := M) [] h1 h2
  have e0 : fParse ([] : List UInt8) = ([], [], false) := fParse_short (by decide)
  rw [List.append_nil, e0] at h
  have e : fFeed [] false (fPutL M) = ⟨[], false, [M], 0⟩ := by rw [fFeed_go ok0, List.nil_append, h]; rfl
  unfold opOk opM
  rw [e]
  exact ⟨rfl, rfl⟩
theorem op_ok {B : List UInt8} (h : opOk B = true) : B = fPutL (opM B) ∧ 1 ≤ (opM B).length ∧ (opM B).length ≤ 2048 := by
  unfold opOk opM at *
  rw [fFeed_go ok0, List.nil_append] at *
  simp only [decide_eq_true_eq] at h
  obtain ⟨h1, h2, h3⟩ := h
  have hb : (fParse B).2.2 = false := by
    cases e : (fParse B).2.2
    · rfl
    · rw [e] at h1; cases h1
  have := fParse_inv _ B rfl hb
  rw [h3, List.append_nil] at this
  match hT : (fParse B).1, h2 with
  | [t], _ =>
    rw [hT] at this
    have h4 := this.2 t (by simp)
    refine ⟨?_, h4⟩
    have h5 := this.1
    simpa using h5
def opE (B : List UInt8) : Int := if opOk B = true then (if mRe (opM B) = 0 then dE (mRT (opM B)) (mRL (opM B)) else mRe (opM B)) else 3
def opI (B : List UInt8) (z : Int) : Int := if opOk B = true then z else 0
def opS (B t : List UInt8) : List UInt8 := if opOk B = true then t else []
def opD (B : List UInt8) : Dl := ⟨opI B (xK (mRT (opM B)) (mRL (opM B))), opS B (xP (mRT (opM B)) (mRL (opM B))), opI B (xA (mRT (opM B)) (mRL (opM B))), opI B (xS (mRT (opM B)) (mRL (opM B))), opS B (xR (mRT (opM B)) (mRL (opM B))), opS B (xC (mRT (opM B)) (mRL (opM B)))⟩
theorem op_no {B : List UInt8} (h : opOk B = false) : opE B = 3 ∧ opD B = D0 := by
  unfold opE opD opI opS
  rw [h]
  exact ⟨rfl, rfl⟩
theorem op_bad {B : List UInt8} (h : ¬opE B = 0) : opD B = D0 := by
  cases e : opOk B
  · exact (op_no e).2
  · unfold opE at h
    rw [if_pos e] at h
    have hb : ¬dE (mRT (opM B)) (mRL (opM B)) = 0 := by
      by_cases hm : mRe (opM B) = 0
      · rw [if_pos hm] at h; exact h
      · rw [(mR_bad hm).1, (mR_bad hm).2]; decide
    have := dE_bad hb
    unfold opD opI opS
    simp only [this.1, this.2.1, this.2.2.1, this.2.2.2.1, this.2.2.2.2.1, this.2.2.2.2.2, ite_self]
    rfl
/-- A deal's letter. -/
def ltB (k a s : Int) (p r c : List UInt8) : List UInt8 := if dR k a s p r c = true then fPutL (mW (tyOf k) (dIs k a s p r c)) else []
def ltE (k a s : Int) (p r c : List UInt8) : Int := if dR k a s p r c = true then 0 else 1
theorem lt_yes {k a s : Int} {p r c : List UInt8} (h : dR k a s p r c = true) : ltB k a s p r c = fPutL (mW (tyOf k) (dIs k a s p r c)) ∧ ltE k a s p r c = 0 := ⟨if_pos h, if_pos h⟩
theorem lt_no {k a s : Int} {p r c : List UInt8} (h : dR k a s p r c = false) : ltB k a s p r c = [] ∧ ltE k a s p r c = 1 := by
  unfold ltB ltE; rw [h]; exact ⟨rfl, rfl⟩
theorem lt_R {k a s : Int} {p r c : List UInt8} (h : ltE k a s p r c = 0) : dR k a s p r c = true := by
  cases e : dR k a s p r c
  · rw [(lt_no e).2] at h; cases h
  · rfl
theorem lt_len (k a s : Int) (p r c : List UInt8) (ha : 0 ≤ a) (hs : 0 ≤ s) : (ltB k a s p r c).length ≤ 202 := by
  cases e : dR k a s p r c
  · rw [(lt_no e).1]; simp
  · rw [(lt_yes e).1, fPutL_len]
    have := dB_len e ha hs
    omega
theorem op_back {k a s : Int} {p r c : List UInt8} (h : dR k a s p r c = true) (ha : 0 ≤ a) (hs : 0 ≤ s) : opE (ltB k a s p r c) = 0 ∧ opD (ltB k a s p r c) = ⟨k, p, a, s, r, c⟩ := by
  rw [(lt_yes h).1]
  have hl := dB_len h ha hs
  have hp := op_put (M := mW (tyOf k) (dIs k a s p r c)) (by omega) (by omega)
  have hm := mR_back (dIs_R h ha hs)
  have hd := d_back h ha hs
  unfold opE opD opI opS
  rw [hp.1, hp.2, hm.1, hm.2.1, hm.2.2, hd.1, hd.2.1, hd.2.2.1, hd.2.2.2.1, hd.2.2.2.2.1, hd.2.2.2.2.2.1, hd.2.2.2.2.2.2]
  exact ⟨rfl, rfl⟩
theorem op_good {B : List UInt8} (h : opE B = 0) : dR (opD B).k (opD B).am (opD B).s (opD B).pan (opD B).r (opD B).code = true ∧ 0 ≤ (opD B).am ∧ 0 ≤ (opD B).s ∧ ltB (opD B).k (opD B).am (opD B).s (opD B).pan (opD B).r (opD B).code = B := by
  cases e : opOk B
  · rw [(op_no e).1] at h; cases h
  · have ho := op_ok e
    unfold opE at h
    rw [if_pos e] at h
    by_cases hm : mRe (opM B) = 0
    · rw [if_pos hm] at h
      have g := d_good h
      have q := mR_good hm
      have e1 : opD B = ⟨xK (mRT (opM B)) (mRL (opM B)), xP (mRT (opM B)) (mRL (opM B)), xA (mRT (opM B)) (mRL (opM B)), xS (mRT (opM B)) (mRL (opM B)), xR (mRT (opM B)) (mRL (opM B)), xC (mRT (opM B)) (mRL (opM B))⟩ := by
        unfold opD opI opS
        simp only [if_pos e]
      rw [e1]
      refine ⟨g.1, g.2.2.2.1, g.2.2.2.2, ?_⟩
      show ltB (xK _ _) (xA _ _) (xS _ _) (xP _ _) (xR _ _) (xC _ _) = B
      rw [(lt_yes g.1).1, g.2.1, g.2.2.1, q.2, ← ho.1]
    · rw [if_neg hm] at h; exact absurd h hm
noncomputable def c_fPut9 : Ct := fun A args => match args with
  | [.slc n 1 f] => some (some (A.tp fun _ => isRow eB 0 1 n f ∧ n ≤ 1000000), .tup [rowS eB 0 1 A fun _ => fPutR (lstOf eB 0 1 n f), .int .i64 (A.ti fun _ => fPutE (lstOf eB 0 1 n f))])
  | _ => none
noncomputable def c_fFeed9 : Ct := fun A args => match args with
  | [.agg [.slc n 1 f, .bool br], .slc m 1 g] => some (some (A.tp fun _ => (isRow eB 0 1 n f ∧ isRow eB 0 1 m g) ∧ n ≤ 20000 ∧ m ≤ 20000), .tup [sR A (fun _ => (fFeed (lstOf eB 0 1 n f) br (lstOf eB 0 1 m g)).rest) (A.tb fun _ => (fFeed (lstOf eB 0 1 n f) br (lstOf eB 0 1 m g)).br), rowS eBs [] 1 A fun _ => (fFeed (lstOf eB 0 1 n f) br (lstOf eB 0 1 m g)).told, .int .i64 (A.ti fun _ => (fFeed (lstOf eB 0 1 n f) br (lstOf eB 0 1 m g)).e)])
  | _ => none
noncomputable def gT1 : Ar → Pu := addC 64 c_fPut9 (addC 16 c_fFeed9 (gO4))
theorem gT1_ok : PuOk Tryz.prog gl0 (gT1 std) := by
  refine addC_ok (addC_ok (gO4_ok) ⟨_, Tryz.func16, rfl, by decide⟩ ?_) ⟨_, Tryz.func64, rfl, by decide⟩ ?_
  · intro args p r h hp
    unfold c_fFeed9 at h
    split at h <;> cases h
    exact good_sv (good_fFeed _ _ _ (by rw [lstOf_length hp.1.1]; exact hp.2.1) (by rw [lstOf_length hp.1.2]; exact hp.2.2)) ⟨⟨_, rfl, hp.1.1.sv, rfl, trivial⟩, hp.1.2.sv, trivial⟩
  · intro args p r h hp
    unfold c_fPut9 at h
    split at h <;> cases h
    exact good_sv (good_fPut _ (by rw [lstOf_length hp.1]; exact hp.2)) ⟨hp.1.sv, trivial⟩
theorem good_tLetter (k a s : Int) (p r c : List UInt8) (ha : 0 ≤ a ∧ a < 18446744073709551616) (hs : 0 ≤ s ∧ s < 4294967296) (hp : p.length ≤ 100000) (hr : r.length ≤ 1000000) (hcc : c.length ≤ 1000000) : GoodP Tryz.prog gl0 26 [.agg [.int .i64 k, .str p, .int .u64 a, .int .u32 s, .str r, .str c]] (.tup [rowS eB 0 1 std fun _ => ltB k a s p r c, .int .i64 (std.ti fun _ => ltE k a s p r c)]) := by
  refine fn_sound' (T := seatT) (G := gT1) (X := noX) seatT_ok gT1_ok noX_ok noI_ok mixed Tryz.func26 (.none) (fun A => [.agg [.int .i64 k, .str p, .int .u64 a, .int .u32 s, .str r, .str c]]) (fun A => .tup [rowS eB 0 1 A fun _ => ltB k a s p r c, .int .i64 (A.ti fun _ => ltE k a s p r c)]) fun A hA => ?_
  cbv
  repeat' (first | with_reducible exact True.intro | with_reducible exact dr_ok hA (by kernel_rfl) | with_reducible refine And.intro ?_ ?_ | (intro hc; cbv))
  all_goals (subst hA; simp [-List.getD_eq_getElem?_getD, std_add, std_sub, std_mul, std_quo, std_rem, std_band, std_bor, std_bxor, std_shl, std_shr, std_eq, std_ne, std_lt, std_le, std_conv, std_not, std_beq, std_bne, std_ite, std_want, std_and2, std_sadd, std_seq, std_sne, std_slt, std_sle, std_sgt, std_sge, std_slen, std_sget, std_scut, std_ofNat, std_toNat, std_nsub, std_nadd, std_lenOf, std_nz, std_nneg, std_inb, std_upto, std_slt63, std_grow, std_imp, std_impN, std_tr, std_tb, std_ti, std_ts, std_tn, std_tp, std_nmin, std_makes, std_room, std_zeros, std_nilq, std_notq, std_eqi, std_eqn, std_eqb, std_eqs, std_eqv, std_cat, std_lst, std_rset, std_rcopy, std_shift, std_eqr, std_strOf, std_bytesOf, std_isB, std_zOf, zOf_int, std_isI, isI_int, std_getL, std_nmul, std_sOf, sOf_str, std_isS, isS_str, std_fadd, std_fsub, std_fav, std_fsv, std_feq, std_fne, std_flt, std_fle, std_fgt, std_fge, std_fOf, std_fTo, std_fTv, strOf_lit, lstOf_lit inj_eB, lstOf_lit inj_eZ, lstOf_lit inj_eBs, lstOf_lit inj_eS, isRow_lit, isB_lit, isRow_nil, lstOf_nil inj_eB, lstOf_nil inj_eZ, lstOf_nil inj_eBs, lstOf_nil inj_eS, lstOf_lit inj_eI] at *)
  all_goals (cases hd : dR k a s p r c)
  all_goals first
    | (have hn := dw_no hd
       have hl := lt_no hd
       simp only [hn.1, hn.2.1, hn.2.2, hl.1, hl.2] at *
       first
         | done
         | omega
         | contradiction
         | exact ⟨ha, hs, hp, hr, hcc⟩
         | (simp at *; done)
         | trace_state)
    | (have hw := dw_yes hd
       have hl := lt_yes hd
       have hR := dIs_R hd ha.1 hs.1
       have hv := fun i => Nat.le_trans (val_len hR i) (show 999 ≤ 1000000 by decide)
       have hlen : (dIs k a s p r c).length ≤ 5 := by rw [dIs_len]; exact (fOf_len k).2
       have hB := dB_len hd ha.1 hs.1
       have hm := mw_yes hR
       have hq := pe2 (B := mW (tyOf k) (dIs k a s p r c)) (fun e => by rw [e] at hB; simp at hB) (by omega)
       simp only [hw.1, hw.2.1, hw.2.2, hm.1, hm.2, hl.1, hl.2, hq.1, hq.2] at *
       first
         | done
         | omega
         | contradiction
         | exact ⟨ha, hs, hp, hr, hcc⟩
         | exact ⟨by omega, hv⟩
         | (simp at *; done)
         | trace_state)
    | trace_state
theorem good_tOpen (B : List UInt8) (hB : B.length ≤ 10000) : GoodP Tryz.prog gl0 29 [rowS eB 0 1 std fun _ => B] (.tup [.agg [.int .i64 (std.ti fun _ => (opD B).k), .str (std.ts fun _ => (opD B).pan), .int .u64 (std.ti fun _ => (opD B).am), .int .u32 (std.ti fun _ => (opD B).s), .str (std.ts fun _ => (opD B).r), .str (std.ts fun _ => (opD B).code)], .int .i64 (std.ti fun _ => opE B)]) := by
  refine fn_sound' (T := seatT) (G := gT1) (X := noX) seatT_ok gT1_ok noX_ok noI_ok mixed Tryz.func29 (.one) (fun A => [rowS eB 0 1 A fun _ => B]) (fun A => .tup [.agg [.int .i64 (A.ti fun _ => (opD B).k), .str (A.ts fun _ => (opD B).pan), .int .u64 (A.ti fun _ => (opD B).am), .int .u32 (A.ti fun _ => (opD B).s), .str (A.ts fun _ => (opD B).r), .str (A.ts fun _ => (opD B).code)], .int .i64 (A.ti fun _ => opE B)]) fun A hA => ?_
  cbv
  repeat' (first | with_reducible exact True.intro | with_reducible exact dr_ok hA (by kernel_rfl) | with_reducible refine And.intro ?_ ?_ | (intro hc; cbv))
  all_goals (subst hA; simp [-List.getD_eq_getElem?_getD, std_add, std_sub, std_mul, std_quo, std_rem, std_band, std_bor, std_bxor, std_shl, std_shr, std_eq, std_ne, std_lt, std_le, std_conv, std_not, std_beq, std_bne, std_ite, std_want, std_and2, std_sadd, std_seq, std_sne, std_slt, std_sle, std_sgt, std_sge, std_slen, std_sget, std_scut, std_ofNat, std_toNat, std_nsub, std_nadd, std_lenOf, std_nz, std_nneg, std_inb, std_upto, std_slt63, std_grow, std_imp, std_impN, std_tr, std_tb, std_ti, std_ts, std_tn, std_tp, std_nmin, std_makes, std_room, std_zeros, std_nilq, std_notq, std_eqi, std_eqn, std_eqb, std_eqs, std_eqv, std_cat, std_lst, std_rset, std_rcopy, std_shift, std_eqr, std_strOf, std_bytesOf, std_isB, std_zOf, zOf_int, std_isI, isI_int, std_getL, std_nmul, std_sOf, sOf_str, std_isS, isS_str, std_fadd, std_fsub, std_fav, std_fsv, std_feq, std_fne, std_flt, std_fle, std_fgt, std_fge, std_fOf, std_fTo, std_fTv, strOf_lit, lstOf_lit inj_eB, lstOf_lit inj_eZ, lstOf_lit inj_eBs, lstOf_lit inj_eS, isRow_lit, isB_lit, isRow_nil, lstOf_nil inj_eB, lstOf_nil inj_eZ, lstOf_nil inj_eBs, lstOf_nil inj_eS, lstOf_lit inj_eI] at *)
  all_goals first
    | omega
    | (have hn : opOk B = false := by
         rw [Bool.eq_false_iff]
         intro e
         unfold opOk at e
         simp only [decide_eq_true_eq] at e
         rcases hc with (h | h) | h
         · exact h e.1
         · exact h (by rw [e.2.1]; rfl)
         · exact h e.2.2
       have h := op_no hn
       first
         | (rw [h.1]; done)
         | (rw [h.2]; done)
         | (rw [h.2]; rfl))
    | (have hq : ((fFeed [] false B).e = 0 ∧ ((fFeed [] false B).told.length : Int) = 1) ∧ (fFeed [] false B).rest = [] := by assumption
       have hn : opOk B = true := by
         unfold opOk
         simp only [decide_eq_true_eq]
         exact ⟨hq.1.1, by omega, hq.2⟩
       have hM : (fFeed [] false B).told.getD 0 [] = opM B := rfl
       have hl := op_ok hn
       have e1 : opE B = if mRe (opM B) = 0 then dE (mRT (opM B)) (mRL (opM B)) else mRe (opM B) := by unfold opE; rw [if_pos hn]
       have eD : opD B = ⟨xK (mRT (opM B)) (mRL (opM B)), xP (mRT (opM B)) (mRL (opM B)), xA (mRT (opM B)) (mRL (opM B)), xS (mRT (opM B)) (mRL (opM B)), xR (mRT (opM B)) (mRL (opM B)), xC (mRT (opM B)) (mRL (opM B))⟩ := by
         unfold opD opI opS; simp only [if_pos hn]
       try rw [hM] at *
       first
         | omega
         | (have h0 : mRe (opM B) = 0 := by assumption
            first
              | exact ⟨Nat.le_trans (mRL_len _) (by decide), fun i => Nat.le_trans (val_len (mR_good h0).1 i) (by decide)⟩
              | (rw [eD]; done)
              | (rw [e1, if_pos h0]; done))
         | (have h0 : ¬mRe (opM B) = 0 := by assumption
            have hb := op_bad (B := B) (by rw [e1, if_neg h0]; exact h0)
            first
              | (rw [hb]; done)
              | (rw [hb]; rfl)
              | (rw [e1, if_neg h0]; done))
         | trace_state)
    | trace_state
end Go.Vd

set_option linter.unusedVariables false
set_option linter.unusedSimpArgs false
set_option maxRecDepth 100000
set_option maxHeartbeats 1000000
namespace Go.Vd
open Go.Proofs
def bsList : List (List UInt8) → Prop := fun L => ∀ b ∈ L, b.length ≤ 1000000
theorem getD_len {L : List (List UInt8)} (h : bsList L) (i : Nat) : (L.getD i []).length ≤ 1000000 := by
  rw [List.getD_eq_getElem?_getD]
  rcases Nat.lt_or_ge i L.length with hi | hi
  · rw [List.getElem?_eq_getElem hi]
    exact h _ (List.getElem_mem hi)
  · rw [List.getElem?_eq_none hi]; simp
def rCloneQ (A : Ar) (L : Unit → List UInt8) : SV := .frs 5 1 (A.tn fun _ => (L ()).length) (rowF eB 0 A L)
def rClones (A : Ar) (L : Unit → List (List UInt8)) : SV := .frs 22 1 (A.tn fun _ => (L ()).length) (rowF eBs [] A L)
theorem good_CloneQ (L : List UInt8) (hL : L.length ≤ 1000000) : GoodP Tryz.prog gl0 47 [rowS eB 0 1 std fun _ => L] (rCloneQ std fun _ => L) := by
  refine fn_sound' (T := seatT) (G := noC) (X := noX) seatT_ok noC_ok noX_ok noI_ok mixed Tryz.func47 (.fresh 5 1) (fun A => [rowS eB 0 1 A fun _ => L]) (fun A => rCloneQ A fun _ => L) fun A hA => ?_
  cbv
  repeat' (first | with_reducible exact True.intro | with_reducible exact dr_ok hA (by kernel_rfl) | with_reducible refine And.intro ?_ ?_ | (intro hc; cbv))
  all_goals (subst hA; simp only [sS] at *)
  all_goals first
    | omega
    | (constructor <;> omega)
    | (apply eqr_of; (focus (repeat' (first | with_reducible exact Reps.lit _ | with_reducible apply Reps.catE | exact Reps.nil | (simp; done) | omega))); (focus (first | (simp; done) | omega | rfl)); (focus (first | (simp; done) | rfl)))
    | (have := hc (by assumption); omega)
    | (have := hc (by assumption); exact eqr_of Reps.nil (by omega) (List.length_eq_zero_iff.1 this).symm)
theorem good_Clones (L : List (List UInt8)) (hL : L.length ≤ 1000000) : GoodP Tryz.prog gl0 155 [rowS eBs [] 1 std fun _ => L] (rClones std fun _ => L) := by
  refine fn_sound' (T := seatT) (G := noC) (X := noX) seatT_ok noC_ok noX_ok noI_ok mixed Tryz.func155 (.fresh 22 1) (fun A => [rowS eBs [] 1 A fun _ => L]) (fun A => rClones A fun _ => L) fun A hA => ?_
  cbv
  repeat' (first | with_reducible exact True.intro | with_reducible exact dr_ok hA (by kernel_rfl) | with_reducible refine And.intro ?_ ?_ | (intro hc; cbv))
  all_goals (subst hA; simp only [sS] at *)
  all_goals first
    | omega
    | (constructor <;> omega)
    | (apply eqr_of; (focus (repeat' (first | with_reducible exact Reps.lit _ | with_reducible apply Reps.catE | exact Reps.nil | (simp; done) | omega))); (focus (first | (simp; done) | omega | rfl)); (focus (first | (simp; done) | rfl)))
    | (have := hc (by assumption); omega)
    | (have := hc (by assumption); exact eqr_of Reps.nil (by omega) (List.length_eq_zero_iff.1 this).symm)
noncomputable def c_CloneQ : Ct := fun A args => match args with
  | [.slc n 1 f] => some (some (A.tp fun _ => isRow eB 0 1 n f ∧ n ≤ 1000000), rCloneQ A fun _ => lstOf eB 0 1 n f)
  | _ => none
noncomputable def c_Clones : Ct := fun A args => match args with
  | [.slc n 1 f] => some (some (A.tp fun _ => isRow eBs [] 1 n f ∧ n ≤ 1000000), rClones A fun _ => lstOf eBs [] 1 n f)
  | _ => none
noncomputable def gq1 : Ar → Pu := addC 47 c_CloneQ (addC 155 c_Clones (noC))
theorem gq1_ok : PuOk Tryz.prog gl0 (gq1 std) := by
  refine addC_ok (addC_ok (noC_ok) ⟨_, Tryz.func155, rfl, by decide⟩ ?_) ⟨_, Tryz.func47, rfl, by decide⟩ ?_
  · intro args p r h hp
    unfold c_Clones at h
    split at h <;> cases h
    exact good_sv (good_Clones _ (by rw [lstOf_length hp.1]; exact hp.2)) ⟨hp.1.sv, trivial⟩
  · intro args p r h hp
    unfold c_CloneQ at h
    split at h <;> cases h
    exact good_sv (good_CloneQ _ (by rw [lstOf_length hp.1]; exact hp.2)) ⟨hp.1.sv, trivial⟩
def rLists (A : Ar) (L : Unit → List (List UInt8)) : SV := rClones A L
theorem good_Lists (L : List (List UInt8)) (hL : L.length ≤ 1000000) (hb : bsList L) : GoodP Tryz.prog gl0 123 [rowS eBs [] 1 std fun _ => L] (rLists std fun _ => L) := by
  refine fn_sound' (T := seatT) (G := gq1) (X := noX) seatT_ok gq1_ok noX_ok noI_ok mixed Tryz.func123 (.fresh 22 1) (fun A => [rowS eBs [] 1 A fun _ => L]) (fun A => rLists A fun _ => L) fun A hA => ?_
  cbv
  repeat' (first | with_reducible exact True.intro | with_reducible exact dr_ok hA (by kernel_rfl) | with_reducible refine And.intro ?_ ?_ | (intro hc; cbv))
  · subst hA; exact ⟨isRow_lit _, hL⟩
  simp only [lit_A hA inj_eB, lit_A hA inj_eZ, lit_A hA inj_eBs, lit_A hA inj_eS]
  refine ⟨⟨{i : Nat // i ≤ L.length}, fun b i => [(9, .int .i64 (i.1 : Nat)), (0, .own 2), (7, .own 2), (20, .any)], fun b i => [(2, .row 22 1 (A.tn fun _ => L.length) (rowF eBs [] A fun _ => L))], fun i => L.length - i.1, true⟩, ⟨⟨0, by omega⟩, ?_⟩, ?_⟩
  · cbv
    subst hA
    simp [sS]
  · rintro ⟨i, hi⟩
    cbv
    repeat' (first | with_reducible exact True.intro | with_reducible exact dr_ok hA (by kernel_rfl) | with_reducible refine And.intro ?_ ?_ | (intro hc; cbv))
    · subst hA; simp [sS] at hc ⊢; omega
    · subst hA
      exact ⟨isRow_lit _, getD_len hb _⟩
    · subst hA; simp [sS] at hc ⊢; omega
    · have hlt : i < L.length := by subst hA; simp [sS] at hc; omega
      refine ⟨⟨i + 1, by omega⟩, ?_, show L.length - (i + 1) < L.length - i by omega⟩
      cbv
      subst hA
      simp [-List.getD_eq_getElem?_getD, sS, lstOf_lit inj_eB]
      refine ⟨w64 (by omega), ?_⟩
      exact eqr_of (M := L.set i (L.getD i [])) (Reps.rset' (k := 1) (enc := eBs) (.lit L) hlt _ rfl (cell_eBs (.lit _))) rfl set_getD
    · have : i = L.length := by subst hA; simp [sS] at hc; omega
      subst hA this
      simp [sS]
    · subst hA
      simp [sS]
end Go.Vd

set_option linter.unusedVariables false
set_option linter.unusedSimpArgs false
set_option maxRecDepth 100000
set_option maxHeartbeats 1000000
namespace Go.Vd
open Go.Proofs
theorem w64len {L M : List (List UInt8)} (hL : L.length ≤ 1000000) (hM : M.length ≤ 1000000) : IntKind.i64.wrap ((L.length : Int) + M.length) = (L.length : Int) + M.length := w64 (by omega)
noncomputable def c_Lists : Ct := fun A args => match args with
  | [.slc n 1 f] => some (some (A.tp fun _ => isRow eBs [] 1 n f ∧ n ≤ 1000000 ∧ bsList (lstOf eBs [] 1 n f)), rLists A fun _ => lstOf eBs [] 1 n f)
  | _ => none
noncomputable def gq2 : Ar → Pu := addC 123 c_Lists (gq1)
theorem gq2_ok : PuOk Tryz.prog gl0 (gq2 std) := by
  refine addC_ok (gq1_ok) ⟨_, Tryz.func123, rfl, by decide⟩ ?_
  · intro args p r h hp
    unfold c_Lists at h
    split at h <;> cases h
    exact good_sv (good_Lists _ (by rw [lstOf_length hp.1]; exact hp.2.1) hp.2.2) ⟨hp.1.sv, trivial⟩
def sQ (A : Ar) (r : Int) (L : Unit → List (List UInt8)) : SV := .agg [.int .i64 r, rowS eBs [] 1 A L]
def fQ (A : Ar) (r : Int) (L : Unit → List (List UInt8)) : SV := .agg [.int .i64 r, rLists A L]
theorem good_fQueue (r : Int) (L : List (List UInt8)) (hL : L.length ≤ 1000000) (hb : bsList L) : GoodP Tryz.prog gl0 72 [sQ std r fun _ => L] (fQ std r fun _ => L) := by
  refine fn_sound' (T := seatT) (G := gq2) (X := noX) seatT_ok gq2_ok noX_ok noI_ok mixed Tryz.func72 (.fresh 22 1) (fun A => [sQ A r fun _ => L]) (fun A => fQ A r fun _ => L) fun A hA => ?_
  cbv
  repeat' (first | with_reducible exact True.intro | with_reducible exact dr_ok hA (by kernel_rfl) | with_reducible refine And.intro ?_ ?_ | (intro hc; cbv))
  all_goals (subst hA; simp [-List.getD_eq_getElem?_getD, sS])
  · exact ⟨isRow_lit _, hL, by rw [lstOf_lit inj_eBs]; exact hb⟩
  · rw [lstOf_lit inj_eBs]
  · rw [lstOf_lit inj_eBs]; simp
def rRoom (r : Int) : Bool := decide (1 ≤ r) && decide (r ≤ 64)
theorem good_rightRoom (r : Int) : GoodP Tryz.prog gl0 125 [.int .i64 r] (.bool (std.tb fun _ => rRoom r)) := by
  refine fn_sound' (T := seatT) (G := noC) (X := noX) seatT_ok noC_ok noX_ok noI_ok mixed Tryz.func125 (.one) (fun A => [.int .i64 r]) (fun A => .bool (A.tb fun _ => rRoom r)) fun A hA => ?_
  cbv
  repeat' (first | with_reducible exact True.intro | with_reducible exact dr_ok hA (by kernel_rfl) | with_reducible refine And.intro ?_ ?_ | (intro hc; cbv))
  all_goals (subst hA; simp [-List.getD_eq_getElem?_getD, sS]; try simp [rRoom])
noncomputable def c_fQueue : Ct := fun A args => match args with
  | [.agg [.int .i64 r, .slc n 1 f]] => some (some (A.tp fun _ => isRow eBs [] 1 n f ∧ n ≤ 1000000 ∧ bsList (lstOf eBs [] 1 n f)), fQ A r fun _ => lstOf eBs [] 1 n f)
  | _ => none
noncomputable def c_rightRoom : Ct := fun A args => match args with
  | [.int .i64 r] => some (none, .bool (A.tb fun _ => rRoom r))
  | _ => none
noncomputable def gq3 : Ar → Pu := addC 72 c_fQueue (addC 125 c_rightRoom (gq2))
theorem gq3_ok : PuOk Tryz.prog gl0 (gq3 std) := by
  refine addC_ok (addC_ok (gq2_ok) ⟨_, Tryz.func125, rfl, by decide⟩ ?_) ⟨_, Tryz.func72, rfl, by decide⟩ ?_
  · intro args p r h hp
    unfold c_rightRoom at h
    split at h <;> cases h
    exact good_rightRoom _
  · intro args p r h hp
    unfold c_fQueue at h
    split at h <;> cases h
    exact good_sv (good_fQueue _ _ (by rw [lstOf_length hp.1]; exact hp.2.1) hp.2.2) ⟨⟨_, rfl, rfl, hp.1.sv, trivial⟩, trivial⟩
def qOk (r : Int) (n : Nat) : Bool := rRoom r && decide ((n : Int) ≤ r)
theorem good_qRight (r : Int) (L : List (List UInt8)) : GoodP Tryz.prog gl0 74 [sQ std r fun _ => L] (.bool (std.tb fun _ => qOk r L.length)) := by
  refine fn_sound' (T := seatT) (G := gq3) (X := noX) seatT_ok gq3_ok noX_ok noI_ok mixed Tryz.func74 (.one) (fun A => [sQ A r fun _ => L]) (fun A => .bool (A.tb fun _ => qOk r L.length)) fun A hA => ?_
  cbv
  repeat' (first | with_reducible exact True.intro | with_reducible exact dr_ok hA (by kernel_rfl) | with_reducible refine And.intro ?_ ?_ | (intro hc; cbv))
  all_goals (subst hA; simp [-List.getD_eq_getElem?_getD, sS]; try simp [qOk])
theorem good_rRightQ (r : Int) (L : List (List UInt8)) : GoodP Tryz.prog gl0 124 [sQ std r fun _ => L] (.bool (std.tb fun _ => qOk r L.length)) := by
  refine fn_sound' (T := seatT) (G := gq3) (X := noX) seatT_ok gq3_ok noX_ok noI_ok mixed Tryz.func124 (.one) (fun A => [sQ A r fun _ => L]) (fun A => .bool (A.tb fun _ => qOk r L.length)) fun A hA => ?_
  cbv
  repeat' (first | with_reducible exact True.intro | with_reducible exact dr_ok hA (by kernel_rfl) | with_reducible refine And.intro ?_ ?_ | (intro hc; cbv))
  all_goals (subst hA; simp [-List.getD_eq_getElem?_getD, sS]; try simp [qOk, rRoom])
  all_goals (rw [Bool.eq_iff_iff]; simp; omega)
noncomputable def c_qRight : Ct := fun A args => match args with
  | [.agg [.int .i64 r, .slc n 1 f]] => some (some (A.tp fun _ => isRow eBs [] 1 n f), .bool (A.tb fun _ => qOk r (lstOf eBs [] 1 n f).length))
  | _ => none
noncomputable def c_rRightQ : Ct := fun A args => match args with
  | [.agg [.int .i64 r, .slc n 1 f]] => some (some (A.tp fun _ => isRow eBs [] 1 n f), .bool (A.tb fun _ => qOk r (lstOf eBs [] 1 n f).length))
  | _ => none
noncomputable def gq4 : Ar → Pu := addC 74 c_qRight (addC 124 c_rRightQ (gq3))
theorem gq4_ok : PuOk Tryz.prog gl0 (gq4 std) := by
  refine addC_ok (addC_ok (gq3_ok) ⟨_, Tryz.func124, rfl, by decide⟩ ?_) ⟨_, Tryz.func74, rfl, by decide⟩ ?_
  · intro args p r h hp
    unfold c_rRightQ at h
    split at h <;> cases h
    exact good_sv (good_rRightQ _ _) ⟨⟨_, rfl, rfl, hp.sv, trivial⟩, trivial⟩
  · intro args p r h hp
    unfold c_qRight at h
    split at h <;> cases h
    exact good_sv (good_qRight _ _) ⟨⟨_, rfl, rfl, hp.sv, trivial⟩, trivial⟩
def qLeft (r : Int) (n : Nat) : Int := if qOk r n then r - n else 0
theorem qOk_iff {r : Int} {n : Nat} : qOk r n = true ↔ 1 ≤ r ∧ r ≤ 64 ∧ (n : Int) ≤ r := by simp [qOk, rRoom, and_assoc]
theorem good_qLeft (r : Int) (L : List (List UInt8)) : GoodP Tryz.prog gl0 121 [sQ std r fun _ => L] (.int .i64 (std.ti fun _ => qLeft r L.length)) := by
  refine fn_sound' (T := seatT) (G := gq4) (X := noX) seatT_ok gq4_ok noX_ok noI_ok mixed Tryz.func121 (.one) (fun A => [sQ A r fun _ => L]) (fun A => .int .i64 (A.ti fun _ => qLeft r L.length)) fun A hA => ?_
  cbv
  repeat' (first | with_reducible exact True.intro | with_reducible exact dr_ok hA (by kernel_rfl) | with_reducible refine And.intro ?_ ?_ | (intro hc; cbv))
  all_goals (subst hA; simp [-List.getD_eq_getElem?_getD, sS, lstOf_lit inj_eBs] at *)
  · exact isRow_lit _
  · simp [qLeft, hc]
  · have := qOk_iff.1 hc
    rw [w64 (by omega)]; simp [qLeft, hc]
theorem good_qown (L : List UInt8) (hL : L.length ≤ 1000000) : GoodP Tryz.prog gl0 122 [rowS eB 0 1 std fun _ => L] (rowS eB 0 1 std fun _ => L) := by
  refine fn_sound' (T := seatT) (G := gq4) (X := noX) seatT_ok gq4_ok noX_ok noI_ok mixed Tryz.func122 (.none) (fun A => [rowS eB 0 1 A fun _ => L]) (fun A => rowS eB 0 1 A fun _ => L) fun A hA => ?_
  cbv
  repeat' (first | with_reducible exact True.intro | with_reducible exact dr_ok hA (by kernel_rfl) | with_reducible refine And.intro ?_ ?_ | (intro hc; cbv))
  all_goals (subst hA; simp [-List.getD_eq_getElem?_getD, sS])
  · omega
  · exact (Reps.copied (.lit L)).eqr
noncomputable def c_qLeft : Ct := fun A args => match args with
  | [.agg [.int .i64 r, .slc n 1 f]] => some (some (A.tp fun _ => isRow eBs [] 1 n f), .int .i64 (A.ti fun _ => qLeft r (lstOf eBs [] 1 n f).length))
  | _ => none
noncomputable def c_qown : Ct := fun A args => match args with
  | [.slc n 1 f] => some (some (A.tp fun _ => isRow eB 0 1 n f ∧ n ≤ 1000000), rowS eB 0 1 A fun _ => lstOf eB 0 1 n f)
  | _ => none
noncomputable def gq5 : Ar → Pu := addC 121 c_qLeft (addC 122 c_qown (gq4))
theorem gq5_ok : PuOk Tryz.prog gl0 (gq5 std) := by
  refine addC_ok (addC_ok (gq4_ok) ⟨_, Tryz.func122, rfl, by decide⟩ ?_) ⟨_, Tryz.func121, rfl, by decide⟩ ?_
  · intro args p r h hp
    unfold c_qown at h
    split at h <;> cases h
    exact good_sv (good_qown _ (by rw [lstOf_length hp.1]; exact hp.2)) ⟨hp.1.sv, trivial⟩
  · intro args p r h hp
    unfold c_qLeft at h
    split at h <;> cases h
    exact good_sv (good_qLeft _ _) ⟨⟨_, rfl, rfl, hp.sv, trivial⟩, trivial⟩
def qFits (r : Int) (n m : Nat) : Bool := qOk r n && decide ((m : Int) ≤ r - n)
def qPutL (r : Int) (L M : List (List UInt8)) : List (List UInt8) := if qFits r L.length M.length then L ++ M else L
def qPutE (r : Int) (n m : Nat) : Int := if !qOk r n then 1 else if qFits r n m then 0 else 7
theorem qFits_no {r : Int} {n m : Nat} (h : qOk r n = false) : qFits r n m = false := by simp [qFits, h]
theorem qFits_lt {r : Int} {n m : Nat} (h : qLeft r n < m) : qFits r n m = false := by
  unfold qLeft at h
  cases hq : qOk r n
  · exact qFits_no hq
  · rw [hq] at h; simp [qFits, hq] at h ⊢; omega
theorem qFits_le {r : Int} {n m : Nat} (h0 : qOk r n = true) (h : ¬ qLeft r n < m) : qFits r n m = true := by
  unfold qLeft at h
  rw [h0] at h; simp [qFits, h0] at h ⊢; omega
theorem good_qPut (r : Int) (L M : List (List UInt8)) (hL : L.length ≤ 1000000) (hb : bsList L) (hM : M.length ≤ 1000000) (hm : bsList M) : GoodP Tryz.prog gl0 71 [sQ std r fun _ => L, rowS eBs [] 1 std fun _ => M] (.tup [sQ std r fun _ => qPutL r L M, .int .i64 (std.ti fun _ => qPutE r L.length M.length)]) := by
  refine fn_sound' (T := seatT) (G := gq5) (X := noX) seatT_ok gq5_ok noX_ok noI_ok mixed Tryz.func71 (.none) (fun A => [sQ A r fun _ => L, rowS eBs [] 1 A fun _ => M]) (fun A => .tup [sQ A r fun _ => qPutL r L M, .int .i64 (A.ti fun _ => qPutE r L.length M.length)]) fun A hA => ?_
  cbv
  repeat' (first | with_reducible exact True.intro | with_reducible exact dr_ok hA (by kernel_rfl) | with_reducible refine And.intro ?_ ?_ | (intro hc; cbv))
  all_goals first
    | (subst hA; simp [-List.getD_eq_getElem?_getD, sS, strOf_lit, lstOf_lit inj_eB, lstOf_lit inj_eZ, lstOf_lit inj_eBs, lstOf_lit inj_eS] at * <;> first
         | exact ⟨isRow_lit _, hL, hb⟩
         | exact isRow_lit _
         | (simp [qPutL, qPutE, qFits_no hc, hc]; done)
         | (simp [qPutL, qPutE, qFits_lt hc]; done)
         | (rename_i hq; simp [qPutL, qPutE, qFits_lt hc, hq]; done))
    | skip
  simp only [lit_A hA inj_eB, lit_A hA inj_eZ, lit_A hA inj_eBs, lit_A hA inj_eS]
  rename_i hq
  have h0 : qOk r L.length = true := by subst hA; simpa [-List.getD_eq_getElem?_getD, sS, strOf_lit, lstOf_lit inj_eB, lstOf_lit inj_eZ, lstOf_lit inj_eBs, lstOf_lit inj_eS] using hq
  have h1 : qFits r L.length M.length = true := by subst hA; refine qFits_le h0 ?_; simpa [-List.getD_eq_getElem?_getD, sS, strOf_lit, lstOf_lit inj_eB, lstOf_lit inj_eZ, lstOf_lit inj_eBs, lstOf_lit inj_eS] using hc
  clear hq hc
  refine ⟨⟨{i : Nat // i ≤ M.length}, fun b i => [(22, .int .i64 (i.1 : Nat))], fun b i => [(4, .row 22 1 (A.tn fun _ => L.length + i.1) (rowF eBs [] A fun _ => L ++ M.take i.1)), (0, .box 59 [.int .i64 r, .own 4])], fun i => M.length - i.1, true⟩, ⟨⟨0, by omega⟩, ?_⟩, ?_⟩
  · cbv
    subst hA
    simp [-List.getD_eq_getElem?_getD, sS]
  · rintro ⟨i, hi⟩
    cbv
    repeat' (first | with_reducible exact True.intro | with_reducible exact dr_ok hA (by kernel_rfl) | with_reducible refine And.intro ?_ ?_ | (intro hc; cbv))
    · subst hA; simp [sS] at hc ⊢; omega
    · subst hA; exact ⟨isRow_lit _, getD_len hm _⟩
    · subst hA; simp [sS]; omega
    · have hlt : i < M.length := by subst hA; simp [sS] at hc; omega
      refine ⟨⟨i + 1, by omega⟩, ?_, show M.length - (i + 1) < M.length - i by omega⟩
      cbv
      subst hA
      simp [-List.getD_eq_getElem?_getD, sS, strOf_lit, lstOf_lit inj_eB, lstOf_lit inj_eZ, lstOf_lit inj_eBs, lstOf_lit inj_eS]
      refine ⟨w64 (by omega), ?_, ?_⟩
      · omega
      · exact snoc_row (by simp; omega) (cell_eBs (.lit _)) (by rw [List.append_assoc, take_snoc hlt]) (by omega)
    all_goals (have hi' : i = M.length := by subst hA; simp [sS] at hc; omega)
    all_goals subst hi'
    · subst hA; rfl
    · subst hA; simp [sS, qPutL, h1]
    · subst hA; simp [-List.getD_eq_getElem?_getD, sS, qPutL, h1]
    · subst hA; simp [sS, qPutE, h0, h1]
def qTakeL (r : Int) (L : List (List UInt8)) : List (List UInt8) := if qOk r L.length then L.tail else L
def qTakeB (r : Int) (L : List (List UInt8)) : List UInt8 := if qOk r L.length then L.getD 0 [] else []
def qTakeE (r : Int) (L : List (List UInt8)) : Int := if qOk r L.length then (if L = [] then 5 else 0) else 1
theorem shift_tail {L : List (List UInt8)} (h : L ≠ []) {n : Nat} (hn : n = L.tail.length) : eqrS n 1 (shiftS (rowF eBs [] std fun x => L) 1) (rowF eBs [] std fun x => L.tail) := by
  have h0 : 0 < L.length := List.length_pos_iff.2 h
  subst hn
  have := (Reps.lit (enc := eBs) (d := []) (k := 1) L).shift (m := L.tail.length) 1 (by simp; omega)
  refine (this.congr rfl ?_).eqr
  rw [List.drop_one, List.take_of_length_le (by simp)]
theorem good_qTake (r : Int) (L : List (List UInt8)) (hL : L.length ≤ 1000000) (hb : bsList L) : GoodP Tryz.prog gl0 34 [sQ std r fun _ => L] (.tup [sQ std r fun _ => qTakeL r L, rowS eB 0 1 std fun _ => qTakeB r L, .int .i64 (std.ti fun _ => qTakeE r L)]) := by
  refine fn_sound' (T := seatT) (G := gq5) (X := noX) seatT_ok gq5_ok noX_ok noI_ok mixed Tryz.func34 (.none) (fun A => [sQ A r fun _ => L]) (fun A => .tup [sQ A r fun _ => qTakeL r L, rowS eB 0 1 A fun _ => qTakeB r L, .int .i64 (A.ti fun _ => qTakeE r L)]) fun A hA => ?_
  cbv
  repeat' (first | with_reducible exact True.intro | with_reducible exact dr_ok hA (by kernel_rfl) | with_reducible refine And.intro ?_ ?_ | (intro hc; cbv))
  all_goals (subst hA; simp [-List.getD_eq_getElem?_getD, sS, strOf_lit, lstOf_lit inj_eB, lstOf_lit inj_eZ, lstOf_lit inj_eBs, lstOf_lit inj_eS] at *)
  all_goals first
    | exact ⟨isRow_lit _, hL, hb⟩
    | exact isRow_lit _
    | (simp [-List.getD_eq_getElem?_getD, qTakeL, qTakeB, qTakeE, hc]; done)
    | (rename_i h0; simp [-List.getD_eq_getElem?_getD, qTakeL, qTakeB, qTakeE, hc, h0]; done)
    | (rename_i h0; simp [-List.getD_eq_getElem?_getD, qTakeL, qTakeB, qTakeE, hc, h0]; exact shift_tail hc (by simp))
    | (subst hc; simp_all [-List.getD_eq_getElem?_getD, qTakeL, qTakeB, qTakeE]; done)
    | (have := List.length_pos_iff.2 (show L ≠ [] from hc); omega)
    | (have := List.length_pos_iff.2 (show L ≠ [] from hc); simp; omega)
theorem qFits_no2 {r : Int} {n m : Nat} (h : r < (n : Int) + m) : qFits r n m = false := by simp [qFits]; intro _; omega
theorem qFits_yes2 {r : Int} {n m : Nat} (h0 : qOk r n = true) (h : (n : Int) + m ≤ r) : qFits r n m = true := by simp [qFits, h0]; omega
theorem good_rPutQ (r : Int) (L M : List (List UInt8)) (hL : L.length ≤ 1000000) (hM : M.length ≤ 1000000) : GoodP Tryz.prog gl0 73 [sQ std r fun _ => L, rowS eBs [] 1 std fun _ => M] (.tup [sQ std r fun _ => qPutL r L M, .int .i64 (std.ti fun _ => qPutE r L.length M.length)]) := by
  refine fn_sound' (T := seatT) (G := gq5) (X := noX) seatT_ok gq5_ok noX_ok noI_ok mixed Tryz.func73 (.none) (fun A => [sQ A r fun _ => L, rowS eBs [] 1 A fun _ => M]) (fun A => .tup [sQ A r fun _ => qPutL r L M, .int .i64 (A.ti fun _ => qPutE r L.length M.length)]) fun A hA => ?_
  cbv
  repeat' (first | with_reducible exact True.intro | with_reducible exact dr_ok hA (by kernel_rfl) | with_reducible refine And.intro ?_ ?_ | (intro hc; cbv))
  all_goals (subst hA; simp [-List.getD_eq_getElem?_getD, sS, strOf_lit, lstOf_lit inj_eB, lstOf_lit inj_eZ, lstOf_lit inj_eBs, lstOf_lit inj_eS, w64len hL hM] at *)
  all_goals first
    | exact isRow_lit _
    | (constructor <;> omega)
    | (simp [qPutL, qPutE, qFits_no hc, hc]; done)
    | (rename_i h0; simp [qPutL, qPutE, qFits_no2 hc, h0]; done)
    | (rename_i h0; simp [qPutL, qPutE, qFits_yes2 h0 hc, h0]; done)
    | (rename_i h0; simp only [qPutL, qFits_yes2 h0 hc, if_true]; (apply eqr_of; (focus (repeat' (first | with_reducible exact Reps.lit _ | with_reducible apply Reps.catE | exact Reps.nil | (simp; done) | omega))); (focus (first | (simp; done) | omega | rfl)); (focus (first | (simp; done) | rfl))))
    | trace_state
theorem lists_stepQ {L M : List (List UInt8)} {i : Nat} (h : L.take i = M.take i) (hL : i < L.length) (hM : i < M.length) : L.take (i + 1) = M.take (i + 1) ↔ L.getD i [] = M.getD i [] := by
  rw [← take_snoc (d := []) hL, ← take_snoc (d := []) hM, h]
  constructor
  · intro e; simpa using e
  · intro e; rw [e]
theorem lists_endQ {L M : List (List UInt8)} {i : Nat} (h : L.take (i + 1) ≠ M.take (i + 1)) : L ≠ M := fun e => h (by rw [e])
theorem good_bListsQ (L M : List (List UInt8)) (hL : L.length ≤ 1000000) : GoodP Tryz.prog gl0 17 [rowS eBs [] 1 std fun _ => L, rowS eBs [] 1 std fun _ => M] (.bool (std.tb fun _ => decide (L = M))) := by
  refine fn_sound' (T := seatT) (G := gq5) (X := noX) seatT_ok gq5_ok noX_ok noI_ok mixed Tryz.func17 (.one) (fun A => [rowS eBs [] 1 A fun _ => L, rowS eBs [] 1 A fun _ => M]) (fun A => .bool (A.tb fun _ => decide (L = M))) fun A hA => ?_
  cbv
  repeat' (first | with_reducible exact True.intro | with_reducible exact dr_ok hA (by kernel_rfl) | with_reducible refine And.intro ?_ ?_ | (intro hc; cbv))
  · subst hA; simp [-List.getD_eq_getElem?_getD, sS, strOf_lit, lstOf_lit inj_eB, lstOf_lit inj_eZ, lstOf_lit inj_eBs, lstOf_lit inj_eS] at *
    intro e; exact hc (by rw [e])
  have hlen : L.length = M.length := by subst hA; simp [sS] at hc; omega
  refine ⟨⟨{i : Nat // i ≤ L.length ∧ L.take i = M.take i}, fun b i => [(5, .int .i64 (i.1 : Nat))], fun b i => [], fun i => L.length - i.1, true⟩, ⟨⟨0, by omega, rfl⟩, ?_⟩, ?_⟩
  · cbv
    subst hA
    simp [-List.getD_eq_getElem?_getD, sS]
  · rintro ⟨i, hi, ht⟩
    cbv
    repeat' (first | with_reducible exact True.intro | with_reducible exact dr_ok hA (by kernel_rfl) | with_reducible refine And.intro ?_ ?_ | (intro hc; cbv))
    · subst hA; simp [sS] at hc ⊢; omega
    · subst hA; exact isB_row (.lit _)
    · subst hA; simp [sS] at hc ⊢; omega
    · subst hA; exact isB_row (.lit _)
    · rename_i h1
      have hlt : i < L.length := by subst hA; simp [sS] at h1; omega
      have hne : L.getD i [] ≠ M.getD i [] := by subst hA; simpa [-List.getD_eq_getElem?_getD, sS, strOf_row (Reps.lit _)] using hc
      have := lists_endQ fun e => hne ((lists_stepQ ht hlt (by omega)).1 e)
      subst hA; simp [sS, this]
    · rename_i h1
      have hlt : i < L.length := by subst hA; simp [sS] at h1; omega
      have he : L.getD i [] = M.getD i [] := by subst hA; simpa [-List.getD_eq_getElem?_getD, sS, strOf_row (Reps.lit _)] using hc
      refine ⟨⟨i + 1, by omega, (lists_stepQ ht hlt (by omega)).2 he⟩, ?_, show L.length - (i + 1) < L.length - i by omega⟩
      cbv
      subst hA
      simp [sS]
      exact w64 (by omega)
    · have : i = L.length := by subst hA; simp [sS] at hc; omega
      subst this
      have he : L = M := by rw [List.take_length, List.take_of_length_le (by omega)] at ht; exact ht
      subst hA; simp [sS, he]
noncomputable def c_qPut : Ct := fun A args => match args with
  | [.agg [.int .i64 r, .slc n 1 f], .slc m 1 g] => some (some (A.tp fun _ => (isRow eBs [] 1 n f ∧ isRow eBs [] 1 m g) ∧ (n ≤ 1000000 ∧ bsList (lstOf eBs [] 1 n f)) ∧ m ≤ 1000000 ∧ bsList (lstOf eBs [] 1 m g)), .tup [sQ A r fun _ => qPutL r (lstOf eBs [] 1 n f) (lstOf eBs [] 1 m g), .int .i64 (A.ti fun _ => qPutE r (lstOf eBs [] 1 n f).length (lstOf eBs [] 1 m g).length)])
  | _ => none
noncomputable def c_qTake : Ct := fun A args => match args with
  | [.agg [.int .i64 r, .slc n 1 f]] => some (some (A.tp fun _ => isRow eBs [] 1 n f ∧ n ≤ 1000000 ∧ bsList (lstOf eBs [] 1 n f)), .tup [sQ A r fun _ => qTakeL r (lstOf eBs [] 1 n f), rowS eB 0 1 A fun _ => qTakeB r (lstOf eBs [] 1 n f), .int .i64 (A.ti fun _ => qTakeE r (lstOf eBs [] 1 n f))])
  | _ => none
noncomputable def c_rPutQ : Ct := fun A args => match args with
  | [.agg [.int .i64 r, .slc n 1 f], .slc m 1 g] => some (some (A.tp fun _ => (isRow eBs [] 1 n f ∧ isRow eBs [] 1 m g) ∧ n ≤ 1000000 ∧ m ≤ 1000000), .tup [sQ A r fun _ => qPutL r (lstOf eBs [] 1 n f) (lstOf eBs [] 1 m g), .int .i64 (A.ti fun _ => qPutE r (lstOf eBs [] 1 n f).length (lstOf eBs [] 1 m g).length)])
  | _ => none
noncomputable def c_bListsQ : Ct := fun A args => match args with
  | [.slc n 1 f, .slc m 1 g] => some (some (A.tp fun _ => isRow eBs [] 1 n f ∧ isRow eBs [] 1 m g ∧ n ≤ 1000000), .bool (A.tb fun _ => decide (lstOf eBs [] 1 n f = lstOf eBs [] 1 m g)))
  | _ => none
noncomputable def gq6 : Ar → Pu := addC 71 c_qPut (addC 34 c_qTake (addC 73 c_rPutQ (addC 17 c_bListsQ (gq5))))
theorem gq6_ok : PuOk Tryz.prog gl0 (gq6 std) := by
  refine addC_ok (addC_ok (addC_ok (addC_ok (gq5_ok) ⟨_, Tryz.func17, rfl, by decide⟩ ?_) ⟨_, Tryz.func73, rfl, by decide⟩ ?_) ⟨_, Tryz.func34, rfl, by decide⟩ ?_) ⟨_, Tryz.func71, rfl, by decide⟩ ?_
  · intro args p r h hp
    unfold c_bListsQ at h
    split at h <;> cases h
    exact good_sv (good_bListsQ _ _ (by rw [lstOf_length hp.1]; exact hp.2.2)) ⟨hp.1.sv, hp.2.1.sv, trivial⟩
  · intro args p r h hp
    unfold c_rPutQ at h
    split at h <;> cases h
    exact good_sv (good_rPutQ _ _ _ (by rw [lstOf_length hp.1.1]; exact hp.2.1) (by rw [lstOf_length hp.1.2]; exact hp.2.2)) ⟨⟨_, rfl, rfl, hp.1.1.sv, trivial⟩, hp.1.2.sv, trivial⟩
  · intro args p r h hp
    unfold c_qTake at h
    split at h <;> cases h
    exact good_sv (good_qTake _ _ (by rw [lstOf_length hp.1]; exact hp.2.1) hp.2.2) ⟨⟨_, rfl, rfl, hp.1.sv, trivial⟩, trivial⟩
  · intro args p r h hp
    unfold c_qPut at h
    split at h <;> cases h
    exact good_sv (good_qPut _ _ _ (by rw [lstOf_length hp.1.1]; exact hp.2.1.1) hp.2.1.2 (by rw [lstOf_length hp.1.2]; exact hp.2.2.1) hp.2.2.2) ⟨⟨_, rfl, rfl, hp.1.1.sv, trivial⟩, hp.1.2.sv, trivial⟩
end Go.Vd

set_option linter.unusedVariables false
set_option linter.unusedSimpArgs false
set_option maxRecDepth 100000
set_option maxHeartbeats 8000000
namespace Go.Vd
open Go.Proofs
/-- Not too much for a look. -/
def looks (L : List (List UInt8)) : Bool := decide (L.length ≤ 300) && (L.take 300).all fun b => decide (b.length ≤ 3000)
theorem looks_iff {L : List (List UInt8)} : looks L = true ↔ L.length ≤ 300 ∧ ∀ b ∈ L, b.length ≤ 3000 := by
  simp only [looks, Bool.and_eq_true, decide_eq_true_eq, List.all_eq_true]
  constructor
  · rintro ⟨h1, h2⟩
    rw [List.take_of_length_le h1] at h2
    exact ⟨h1, h2⟩
  · rintro ⟨h1, h2⟩
    rw [List.take_of_length_le h1]
    exact ⟨h1, h2⟩
theorem looks_no {L : List (List UInt8)} {i : Nat} (hi : i < L.length) (h : 3000 < (L.getD i []).length) : looks L = false := by
  rw [Bool.eq_false_iff]
  intro e
  have := (looks_iff.1 e).2 _ (List.getElem_mem hi)
  rw [List.getD_eq_getElem?_getD, List.getElem?_eq_getElem hi] at h
  simp at h
  omega
theorem good_looks (L : List (List UInt8)) : GoodP Tryz.prog gl0 24 [rowS eBs [] 1 std fun _ => L] (.bool (std.tb fun _ => looks L)) := by
  refine fn_sound' (T := seatT) (G := gq5) (X := noX) seatT_ok gq5_ok noX_ok noI_ok mixed Tryz.func24 (.one) (fun A => [rowS eBs [] 1 A fun _ => L]) (fun A => .bool (A.tb fun _ => looks L)) fun A hA => ?_
  cbv
  refine ⟨⟨{i : Nat // i ≤ L.length ∧ i ≤ 300 ∧ ∀ b ∈ L.take i, b.length ≤ 3000}, fun b i => [(3, .int .i64 (i.1 : Nat))], fun b i => [], fun i => L.length - i.1, true⟩, ⟨⟨0, by omega, by omega, by simp⟩, ?_⟩, ?_⟩
  · cbv
    subst hA
    simp [-List.getD_eq_getElem?_getD, sS]
  · rintro ⟨i, hi, h3, ht⟩
    cbv
    repeat' (first | with_reducible exact True.intro | with_reducible exact dr_ok hA (by kernel_rfl) | with_reducible refine And.intro ?_ ?_ | (intro hc; cbv))
    · subst hA; simp [sS]
    · subst hA; simp [sS]
    · subst hA; simp [sS] at hc ⊢; omega
    · rename_i h1
      have hlt : i < L.length := by subst hA; simp [sS] at h1; omega
      have hne : 3000 < (L.getD i []).length := by subst hA; simp [-List.getD_eq_getElem?_getD, sS] at hc; omega
      subst hA; simp [sS, looks_no hlt hne]
    · rename_i h1
      have hlt : i < L.length ∧ i < 300 := by subst hA; simp [sS] at h1; omega
      have hne : (L.getD i []).length ≤ 3000 := by subst hA; simp [-List.getD_eq_getElem?_getD, sS] at hc; omega
      refine ⟨⟨i + 1, by omega, by omega, fun b hb => ?_⟩, ?_, show L.length - (i + 1) < L.length - i by omega⟩
      · rw [← take_snoc (d := []) hlt.1] at hb
        rcases List.mem_append.1 hb with hb | hb
        · exact ht b hb
        · simp only [List.mem_singleton] at hb; subst hb; exact hne
      cbv
      subst hA
      simp [sS]
      exact w64 (by omega)
    · have hx : looks L = decide (L.length ≤ 300) := by
        have : L.length ≤ i ∨ i = 300 := by subst hA; simp [sS] at hc; omega
        have h2 : (L.take 300).all (fun b => decide (b.length ≤ 3000)) = true := by
          rw [List.all_eq_true]
          intro b hb
          simp only [decide_eq_true_eq]
          rcases this with h | h
          · exact ht b (by rw [List.take_of_length_le h]; exact List.mem_of_mem_take hb)
          · subst h; exact ht b hb
        simp [looks, h2]
      subst hA; simp [sS, hx]
      omega
theorem good_qSame (r q : Int) (L M : List (List UInt8)) (hL : L.length ≤ 1000000) : GoodP Tryz.prog gl0 33 [sQ std r fun _ => L, sQ std q fun _ => M] (.bool (std.tb fun _ => decide (r = q ∧ L = M))) := by
  refine fn_sound' (T := seatT) (G := gq6) (X := noX) seatT_ok gq6_ok noX_ok noI_ok mixed Tryz.func33 (.one) (fun A => [sQ A r fun _ => L, sQ A q fun _ => M]) (fun A => .bool (A.tb fun _ => decide (r = q ∧ L = M))) fun A hA => ?_
  cbv
  repeat' (first | with_reducible exact True.intro | with_reducible exact dr_ok hA (by kernel_rfl) | with_reducible refine And.intro ?_ ?_ | (intro hc; cbv))
  all_goals (subst hA; simp [-List.getD_eq_getElem?_getD, sS, strOf_lit, lstOf_lit inj_eB, lstOf_lit inj_eZ, lstOf_lit inj_eBs, lstOf_lit inj_eS] at *)
  · exact fun e => ⟨e, isRow_lit _, isRow_lit _, hL⟩
  · rw [Bool.beq_eq_decide_eq]
theorem lit_ab : Reps eBs [] 1 2 (lstS [[SV.slc 1 1 (lstS [[SV.int IntKind.u8 97]])], [SV.slc 1 1 (lstS [[SV.int IntKind.u8 98]])]]) [[97], [98]] :=
  Reps.lst (l := [[_], [_]]) (L := [[97], [98]]) ⟨cell_eBs (Reps.one (cell_eB rfl)), cell_eBs (Reps.one (cell_eB rfl)), trivial⟩
theorem lit_c : Reps eBs [] 1 1 (lstS [[SV.slc 1 1 (lstS [[SV.int IntKind.u8 99]])]]) [[99]] := Reps.one (cell_eBs (Reps.one (cell_eB rfl)))
noncomputable def c_looks : Ct := fun A args => match args with
  | [.slc n 1 f] => some (some (A.tp fun _ => isRow eBs [] 1 n f), .bool (A.tb fun _ => looks (lstOf eBs [] 1 n f)))
  | _ => none
noncomputable def c_qSame : Ct := fun A args => match args with
  | [.agg [.int .i64 r, .slc n 1 f], .agg [.int .i64 q, .slc m 1 g]] => some (some (A.tp fun _ => isRow eBs [] 1 n f ∧ isRow eBs [] 1 m g ∧ n ≤ 1000000), .bool (A.tb fun _ => decide (r = q ∧ lstOf eBs [] 1 n f = lstOf eBs [] 1 m g)))
  | _ => none
noncomputable def gq7 : Ar → Pu := addC 24 c_looks (addC 33 c_qSame (gq6))
theorem gq7_ok : PuOk Tryz.prog gl0 (gq7 std) := by
  refine addC_ok (addC_ok (gq6_ok) ⟨_, Tryz.func33, rfl, by decide⟩ ?_) ⟨_, Tryz.func24, rfl, by decide⟩ ?_
  · intro args p r h hp
    unfold c_qSame at h
    split at h <;> cases h
    exact good_sv (good_qSame _ _ _ _ (by rw [lstOf_length hp.1]; exact hp.2.2)) ⟨⟨_, rfl, rfl, hp.1.sv, trivial⟩, ⟨_, rfl, rfl, hp.2.1.sv, trivial⟩, trivial⟩
  · intro args p r h hp
    unfold c_looks at h
    split at h <;> cases h
    exact good_sv (good_looks _) ⟨hp.sv, trivial⟩
end Go.Vd

set_option linter.unusedVariables false
set_option linter.unusedSimpArgs false
set_option maxRecDepth 100000
set_option maxHeartbeats 4000000
namespace Go.Vd
open Go.Proofs
def eD : En Dl := fun A x => [.int .i64 (A.ti fun _ => (x ()).k), .str (A.ts fun _ => (x ()).pan), .int .u64 (A.ti fun _ => (x ()).am), .int .u32 (A.ti fun _ => (x ()).s), .str (A.ts fun _ => (x ()).r), .str (A.ts fun _ => (x ()).code)]
theorem inj_eD : Inj eD 6 := fun x y h => by
  obtain ⟨s0, a0, b0⟩ := h 0 (by omega)
  obtain ⟨s1, a1, b1⟩ := h 1 (by omega)
  obtain ⟨s2, a2, b2⟩ := h 2 (by omega)
  obtain ⟨s3, a3, b3⟩ := h 3 (by omega)
  obtain ⟨s4, a4, b4⟩ := h 4 (by omega)
  obtain ⟨s5, a5, b5⟩ := h 5 (by omega)
  have a0 : Ceq s0 (.int .i64 x.k) := a0
  have b0 : Ceq s0 (.int .i64 y.k) := b0
  have a1 : Ceq s1 (.str x.pan) := a1
  have b1 : Ceq s1 (.str y.pan) := b1
  have a2 : Ceq s2 (.int .u64 x.am) := a2
  have b2 : Ceq s2 (.int .u64 y.am) := b2
  have a3 : Ceq s3 (.int .u32 x.s) := a3
  have b3 : Ceq s3 (.int .u32 y.s) := b3
  have a4 : Ceq s4 (.str x.r) := a4
  have b4 : Ceq s4 (.str y.r) := b4
  have a5 : Ceq s5 (.str x.code) := a5
  have b5 : Ceq s5 (.str y.code) := b5
  rw [Ceq.int] at a0 b0 a2 b2 a3 b3
  rw [Ceq.str] at a1 b1 a4 b4 a5 b5
  subst a0 a1 a2 a3 a4 a5
  cases x
  cases y
  simp at b0 b1 b2 b3 b4 b5
  simp only [Dl.mk.injEq]
  exact ⟨b0, b1, b2, b3, b4, b5⟩
theorem cell_eD (d : Dl) : ∀ j, j < 6 → Ceq (getAt [SV.int .i64 d.k, SV.str d.pan, SV.int .u64 d.am, SV.int .u32 d.s, SV.str d.r, SV.str d.code] j) (getAt (eD std fun _ => d) j) := by
  intro j hj
  rcases (show j = 0 ∨ j = 1 ∨ j = 2 ∨ j = 3 ∨ j = 4 ∨ j = 5 by omega) with rfl | rfl | rfl | rfl | rfl | rfl <;> exact .refl _
def shD (d : Dl) : Bool := oSh d.pan d.r d.code
def dlsOk (L : List Dl) (most : Int) : Bool := decide ((L.length : Int) ≤ most) && L.all shD
theorem dls_iff {L : List Dl} {most : Int} : dlsOk L most = true ↔ (L.length : Int) ≤ most ∧ ∀ d ∈ L, shD d = true := by simp [dlsOk]
theorem dls_no {L : List Dl} {most : Int} {i : Nat} (hi : i < L.length) (h : oSh (L.getD i D0).pan (L.getD i D0).r (L.getD i D0).code = false) : dlsOk L most = false := by
  cases e : dlsOk L most
  · rfl
  · have := (dls_iff.1 e).2 (L.getD i D0) (by rw [List.getD_eq_getElem?_getD, List.getElem?_eq_getElem hi]; exact List.getElem_mem hi)
    rw [show shD (L.getD i D0) = false from h] at this
    cases this
theorem dls_yes {L : List Dl} {most : Int} (h : ∀ j, j < L.length → shD (L.getD j D0) = true) : dlsOk L most = decide ((L.length : Int) ≤ most) := by
  have : L.all shD = true := List.all_eq_true.2 fun d hd => by
    obtain ⟨j, hj, e⟩ := List.getElem_of_mem hd
    have := h j hj
    rw [List.getD_eq_getElem?_getD, List.getElem?_eq_getElem hj] at this
    exact e ▸ this
  unfold dlsOk
  rw [this, Bool.and_true]
theorem dls_big {L : List Dl} {most : Int} (h : ¬(L.length : Int) ≤ most) : dlsOk L most = false := by simp [dlsOk, h]
theorem w_succ {a b : Nat} (h : b = a + 1) (hb : a ≤ 1000000000000) : IntKind.i64.wrap ((a : Int) + 1) = (b : Int) := by
  rw [w64 (by omega)]; omega
noncomputable def c_oShortt : Ct := fun A args => match args with
  | [.agg [.int .i64 a, .str p, .int .u64 c, .int .u32 s, .str r, .str e]] => some (none, .bool (A.tb fun _ => oSh p r e))
  | _ => none
noncomputable def gT2 : Ar → Pu := addC 18 c_oShortt (gT1)
theorem gT2_ok : PuOk Tryz.prog gl0 (gT2 std) := by
  refine addC_ok (gT1_ok) ⟨_, Tryz.func18, rfl, by decide⟩ ?_
  · intro args p r h hp
    unfold c_oShortt at h
    split at h <;> cases h
    exact good_oShort _ _ _ _ _ _
theorem good_tDeals (L : List Dl) (most : Int) (hm : 0 ≤ most ∧ most ≤ 1000) (hL : L.length ≤ 9223372036854775807) : GoodP Tryz.prog gl0 25 [rowS eD D0 6 std fun _ => L, .int .i64 most] (.bool (std.tb fun _ => dlsOk L most)) := by
  refine fn_sound' (T := seatT) (G := gT2) (X := noX) seatT_ok gT2_ok noX_ok noI_ok mixed Tryz.func25 (.one) (fun A => [rowS eD D0 6 A fun _ => L, .int .i64 most]) (fun A => .bool (A.tb fun _ => dlsOk L most)) fun A hA => ?_
  cbv
  repeat' (first | with_reducible exact True.intro | with_reducible exact dr_ok hA (by kernel_rfl) | with_reducible refine And.intro ?_ ?_ | (intro hc; cbv))
  refine ⟨⟨{i : Nat // i ≤ L.length ∧ (i : Int) ≤ most + 1 ∧ ∀ j, j < i → shD (L.getD j D0) = true}, fun b i => [(5, .int .i64 (i.1 : Nat))], fun b i => [], fun i => L.length - i.1, true⟩, ⟨⟨0, by omega, by omega, by simp⟩, ?_⟩, ?_⟩
  · cbv
    subst hA
    simp [-List.getD_eq_getElem?_getD, sS]
  · intro x
    have hi := x.2.1
    have hi2 := x.2.2.1
    have h0 := x.2.2.2
    cbv
    repeat' (first | with_reducible exact True.intro | with_reducible exact dr_ok hA (by kernel_rfl) | with_reducible refine And.intro ?_ ?_ | (intro hc; cbv))
    all_goals first
      | (fail_if_success (refine Exists.intro ?_ ?_)
         subst hA
         simp [-List.getD_eq_getElem?_getD, sS, strOf_lit, lstOf_lit inj_eB, lstOf_lit inj_eZ, lstOf_lit inj_eBs, lstOf_lit inj_eS, isRow_lit, isB_lit, isRow_nil, lstOf_nil inj_eB, lstOf_nil inj_eZ, lstOf_nil inj_eBs, lstOf_nil inj_eS] at *
         first
           | done
           | omega
           | (constructor <;> omega)
           | exact hc.1
           | exact (dls_no (by omega) hc).symm
           | exact dls_no (by omega) hc
           | (rcases Int.lt_or_le most x.1 with hb | hb
              · rw [dls_big (by omega)]
                simp
                omega
              · rw [dls_yes (fun j hj => h0 j (by omega))])
           | trace_state)
      | skip
    all_goals (
         have hq : (x.1 < L.length ∧ (x.1 : Int) ≤ most) ∧ oSh (L.getD x.1 D0).pan (L.getD x.1 D0).r (L.getD x.1 D0).code = true := by (subst hA; simp [-List.getD_eq_getElem?_getD, sS, strOf_lit, lstOf_lit inj_eB, lstOf_lit inj_eZ, lstOf_lit inj_eBs, lstOf_lit inj_eS, isRow_lit, isB_lit, isRow_nil, lstOf_nil inj_eB, lstOf_nil inj_eZ, lstOf_nil inj_eBs, lstOf_nil inj_eS] at *; exact ⟨by assumption, hc⟩)
         obtain ⟨i', hi'⟩ : ∃ i', i' = x.1 + 1 := ⟨_, rfl⟩
         have c0 : x.val ≤ 1000 := by omega
         have c1 : i' ≤ L.length := by omega
         have c2 : ((i' : Nat) : Int) ≤ most + 1 := by omega
         refine ⟨⟨i', c1, c2, fun j hj => ?_⟩, ?_, show L.length - i' < L.length - x.1 by omega⟩
         · rcases Nat.lt_or_ge j x.1 with h | h
           · exact h0 j h
           · obtain rfl : j = x.1 := by omega
             exact hq.2
         · cbv
           subst hA
           simp [-List.getD_eq_getElem?_getD, sS, strOf_lit, lstOf_lit inj_eB, lstOf_lit inj_eZ, lstOf_lit inj_eBs, lstOf_lit inj_eS, isRow_lit, isB_lit, isRow_nil, lstOf_nil inj_eB, lstOf_nil inj_eZ, lstOf_nil inj_eBs, lstOf_nil inj_eS]
           first
             | done
             | exact w_succ (a := x.val) hi' (Nat.le_trans c0 (by decide))
             | trace_state)
end Go.Vd

set_option linter.unusedVariables false
set_option linter.unusedSimpArgs false
set_option maxRecDepth 100000
set_option maxHeartbeats 8000000
namespace Go.Vd
open Go.Proofs
def ltD (d : Dl) : List UInt8 := ltB d.k d.am d.s d.pan d.r d.code
def ltOk (d : Dl) : Bool := dR d.k d.am d.s d.pan d.r d.code
def dlWf (d : Dl) : Prop := (0 ≤ d.am ∧ d.am < 18446744073709551616) ∧ (0 ≤ d.s ∧ d.s < 4294967296) ∧ d.pan.length ≤ 100000 ∧ d.r.length ≤ 1000000 ∧ d.code.length ≤ 1000000
def tpL (r : Int) (Q : List (List UInt8)) (L : List Dl) : List (List UInt8) := if L.all ltOk = true then qPutL r Q (L.map ltD) else Q
def tpE (r : Int) (n : Nat) (L : List Dl) : Int := if L.all ltOk = true then qPutE r n L.length else 1
theorem tp_no {r : Int} {Q : List (List UInt8)} {n : Nat} {L : List Dl} {i : Nat} (hi : i < L.length) (h : ltOk (L.getD i D0) = false) : tpL r Q L = Q ∧ tpE r n L = 1 := by
  have : ¬L.all ltOk = true := fun e => by
    have := List.all_eq_true.1 e (L.getD i D0) (by rw [List.getD_eq_getElem?_getD, List.getElem?_eq_getElem hi]; exact List.getElem_mem hi)
    rw [h] at this; cases this
  exact ⟨if_neg this, if_neg this⟩
theorem tp_all {L : List Dl} (h : ∀ j, j < L.length → ltOk (L.getD j D0) = true) : L.all ltOk = true := List.all_eq_true.2 fun d hd => by
  obtain ⟨j, hj, e⟩ := List.getElem_of_mem hd
  have := h j hj
  rw [List.getD_eq_getElem?_getD, List.getElem?_eq_getElem hj] at this
  exact e ▸ this
theorem tp_yes {r : Int} {Q : List (List UInt8)} {n : Nat} {L : List Dl} (h : ∀ j, j < L.length → ltOk (L.getD j D0) = true) : tpL r Q L = qPutL r Q (L.map ltD) ∧ tpE r n L = qPutE r n L.length := ⟨if_pos (tp_all h), if_pos (tp_all h)⟩
theorem ltE_ok {d : Dl} : ltE d.k d.am d.s d.pan d.r d.code = 0 ↔ ltOk d = true := by
  unfold ltE ltOk
  constructor
  · intro h; cases e : dR d.k d.am d.s d.pan d.r d.code
    · rw [e] at h; cases h
    · rfl
  · intro h; rw [if_pos h]
theorem ltE_no {d : Dl} (h : ¬ltE d.k d.am d.s d.pan d.r d.code = 0) : ltOk d = false ∧ ltE d.k d.am d.s d.pan d.r d.code = 1 := by
  have : ltOk d = false := by
    cases e : ltOk d
    · rfl
    · exact absurd (ltE_ok.2 e) h
  exact ⟨this, (lt_no this).2⟩
theorem map_len {L : List Dl} (n : Nat) (h : ∀ i, dlWf (L.getD i D0)) : bsList ((L.take n).map ltD) := fun b hb => by
  obtain ⟨d, hd, rfl⟩ := List.mem_map.1 hb
  obtain ⟨j, hj, e⟩ := List.getElem_of_mem (List.mem_of_mem_take hd)
  have := h j
  rw [List.getD_eq_getElem?_getD, List.getElem?_eq_getElem hj] at this
  simp only [Option.getD_some, e] at this
  exact Nat.le_trans (lt_len _ _ _ _ _ _ this.1.1 this.2.1.1) (by decide)
theorem map_snoc {L : List Dl} {i : Nat} (hi : i < L.length) : (L.take i).map ltD ++ [ltD (L.getD i D0)] = (L.take (i + 1)).map ltD := by
  rw [← take_snoc (d := D0) hi, List.map_append]; rfl
theorem map_take_len {L : List Dl} {i : Nat} (hi : i ≤ L.length) : ((L.take i).map ltD).length = i := by simp; omega
noncomputable def c_fQueue9 : Ct := fun A args => match args with
  | [.agg [.int .i64 r, .slc n 1 f]] => some (some (A.tp fun _ => isRow eBs [] 1 n f ∧ n ≤ 1000000 ∧ bsList (lstOf eBs [] 1 n f)), fQ A r fun _ => lstOf eBs [] 1 n f)
  | _ => none
noncomputable def c_qPut9 : Ct := fun A args => match args with
  | [.agg [.int .i64 r, .slc n 1 f], .slc m 1 g] => some (some (A.tp fun _ => (isRow eBs [] 1 n f ∧ isRow eBs [] 1 m g) ∧ (n ≤ 1000000 ∧ bsList (lstOf eBs [] 1 n f)) ∧ m ≤ 1000000 ∧ bsList (lstOf eBs [] 1 m g)), .tup [sQ A r fun _ => qPutL r (lstOf eBs [] 1 n f) (lstOf eBs [] 1 m g), .int .i64 (A.ti fun _ => qPutE r (lstOf eBs [] 1 n f).length (lstOf eBs [] 1 m g).length)])
  | _ => none
noncomputable def c_tLetter : Ct := fun A args => match args with
  | [.agg [.int .i64 k, .str p, .int .u64 a, .int .u32 s, .str r, .str c]] => some (some (A.tp fun _ => (0 ≤ a ∧ a < 18446744073709551616) ∧ (0 ≤ s ∧ s < 4294967296) ∧ p.length ≤ 100000 ∧ r.length ≤ 1000000 ∧ c.length ≤ 1000000), .tup [rowS eB 0 1 A fun _ => ltB k a s p r c, .int .i64 (A.ti fun _ => ltE k a s p r c)])
  | _ => none
noncomputable def gT3 : Ar → Pu := addC 72 c_fQueue9 (addC 71 c_qPut9 (addC 26 c_tLetter (gT2)))
theorem gT3_ok : PuOk Tryz.prog gl0 (gT3 std) := by
  refine addC_ok (addC_ok (addC_ok (gT2_ok) ⟨_, Tryz.func26, rfl, by decide⟩ ?_) ⟨_, Tryz.func71, rfl, by decide⟩ ?_) ⟨_, Tryz.func72, rfl, by decide⟩ ?_
  · intro args p r h hp
    unfold c_tLetter at h
    split at h <;> cases h
    exact good_tLetter _ _ _ _ _ _ hp.1 hp.2.1 hp.2.2.1 hp.2.2.2.1 hp.2.2.2.2
  · intro args p r h hp
    unfold c_qPut9 at h
    split at h <;> cases h
    exact good_sv (good_qPut _ _ _ (by rw [lstOf_length hp.1.1]; exact hp.2.1.1) hp.2.1.2 (by rw [lstOf_length hp.1.2]; exact hp.2.2.1) hp.2.2.2) ⟨⟨_, rfl, rfl, hp.1.1.sv, trivial⟩, hp.1.2.sv, trivial⟩
  · intro args p r h hp
    unfold c_fQueue9 at h
    split at h <;> cases h
    exact good_sv (good_fQueue _ _ (by rw [lstOf_length hp.1]; exact hp.2.1) hp.2.2) ⟨⟨_, rfl, rfl, hp.1.sv, trivial⟩, trivial⟩
theorem good_tPush (r : Int) (Q : List (List UInt8)) (L : List Dl) (hQ : Q.length ≤ 1000000) (hb : bsList Q) (hL : L.length ≤ 1000000) (hw : ∀ i, dlWf (L.getD i D0)) : GoodP Tryz.prog gl0 31 [sQ std r fun _ => Q, rowS eD D0 6 std fun _ => L] (.tup [sQ std r fun _ => tpL r Q L, .int .i64 (std.ti fun _ => tpE r Q.length L)]) := by
  refine fn_sound' (T := seatT) (G := gT3) (X := noX) seatT_ok gT3_ok noX_ok noI_ok mixed Tryz.func31 (.none) (fun A => [sQ A r fun _ => Q, rowS eD D0 6 A fun _ => L]) (fun A => .tup [sQ A r fun _ => tpL r Q L, .int .i64 (A.ti fun _ => tpE r Q.length L)]) fun A hA => ?_
  cbv
  repeat' (first | with_reducible exact True.intro | with_reducible exact dr_ok hA (by kernel_rfl) | with_reducible refine And.intro ?_ ?_ | (intro hc; cbv))
  refine ⟨⟨{p : Nat × List (List UInt8) // p.1 ≤ L.length ∧ (∀ j, j < p.1 → ltOk (L.getD j D0) = true) ∧ p.2 = (L.take p.1).map ltD}, fun b p => [(6, .own b), (7, .int .i64 (p.1.1 : Nat))], fun b p => [(b, .row 22 1 (A.tn fun _ => p.1.2.length) (rowF eBs [] A fun _ => p.1.2))], fun p => L.length - p.1.1, true⟩, ⟨⟨(0, []), by omega, by simp, by simp⟩, ?_⟩, ?_⟩
  · cbv
    subst hA
    simp [-List.getD_eq_getElem?_getD, sS, strOf_lit, lstOf_lit inj_eB, lstOf_lit inj_eZ, lstOf_lit inj_eBs, lstOf_lit inj_eS, isRow_lit, isB_lit, isRow_nil, lstOf_nil inj_eB, lstOf_nil inj_eZ, lstOf_nil inj_eBs, lstOf_nil inj_eS]
  · rintro ⟨⟨i, M⟩, hx⟩
    have hi := hx.1
    have h0 := hx.2.1
    have hM := hx.2.2
    simp only at hi h0 hM
    have hMl : M.length = i := by rw [hM]; exact map_take_len hi
    have hMb : bsList M := by rw [hM]; exact map_len i hw
    have hME : i = L.length → M = L.map ltD := fun e => by rw [hM, e, List.take_length]
    cbv
    repeat' (first | with_reducible exact True.intro | with_reducible exact dr_ok hA (by kernel_rfl) | with_reducible refine And.intro ?_ ?_ | (intro hc; cbv))
    all_goals first
      | (fail_if_success (refine Exists.intro ?_ ?_)
         subst hA
         try dsimp only
         clear hM hx
         simp [-List.getD_eq_getElem?_getD, sS, strOf_lit, lstOf_lit inj_eB, lstOf_lit inj_eZ, lstOf_lit inj_eBs, lstOf_lit inj_eS, isRow_lit, isB_lit, isRow_nil, lstOf_nil inj_eB, lstOf_nil inj_eZ, lstOf_nil inj_eBs, lstOf_nil inj_eS] at *
         first
           | done
           | omega
           | (constructor <;> omega)
           | exact ⟨⟨hQ, hb⟩, by omega, hMb⟩
           | exact hw i
           | (have hie : i = L.length := by omega
              have hM2 := hME hie
              have ht := tp_yes (r := r) (Q := Q) (n := Q.length) (fun j hj => h0 j (by omega))
              first
                | (rw [ht.1, hM2]; done)
                | (rw [ht.1, hM2]; exact (Reps.lit _).eqr)
                | (rw [ht.2, hMl, hie]; done))
           | (have he := ltE_no (d := L.getD i D0) hc
              have ht := tp_no (r := r) (Q := Q) (n := Q.length) (show i < L.length by omega) he.1
              first
                | (rw [ht.1]; done)
                | (rw [ht.1]; exact (Reps.lit _).eqr)
                | (rw [ht.2]; exact he.2))
           | trace_state)
      | (have hq : i < L.length ∧ ltE (L.getD i D0).k (L.getD i D0).am (L.getD i D0).s (L.getD i D0).pan (L.getD i D0).r (L.getD i D0).code = 0 := by (clear hM hx; subst hA; simp [-List.getD_eq_getElem?_getD, sS, strOf_lit, lstOf_lit inj_eB, lstOf_lit inj_eZ, lstOf_lit inj_eBs, lstOf_lit inj_eS, isRow_lit, isB_lit, isRow_nil, lstOf_nil inj_eB, lstOf_nil inj_eZ, lstOf_nil inj_eBs, lstOf_nil inj_eS] at *; exact ⟨by omega, hc⟩)
         have hk := ltE_ok.1 hq.2
         obtain ⟨i', hi'⟩ : ∃ i', i' = i + 1 := ⟨_, rfl⟩
         obtain ⟨M', hM'⟩ : ∃ M', M' = M ++ [ltD (L.getD i D0)] := ⟨_, rfl⟩
         have c1 : i' ≤ L.length := by omega
         have c2 : ∀ j, j < i' → ltOk (L.getD j D0) = true := fun j hj => by
           rcases Nat.lt_or_ge j i with h | h
           · exact h0 j h
           · obtain rfl : j = i := by omega
             exact hk
         have c3 : M' = (L.take i').map ltD := by rw [hM', hM, hi']; exact map_snoc hq.1
         refine ⟨⟨(i', M'), c1, c2, c3⟩, ?_, show L.length - i' < L.length - i by omega⟩
         cbv
         subst hA
         simp [-List.getD_eq_getElem?_getD, sS, strOf_lit, lstOf_lit inj_eB, lstOf_lit inj_eZ, lstOf_lit inj_eBs, lstOf_lit inj_eS, isRow_lit, isB_lit, isRow_nil, lstOf_nil inj_eB, lstOf_nil inj_eZ, lstOf_nil inj_eBs, lstOf_nil inj_eS]
         refine ⟨?_, ?_, ?_⟩
         all_goals first | exact w_succ hi' (by omega) | (rw [hM']; simp; done) | exact snoc_row rfl (cell_eBs (Reps.lit _)) hM'.symm (by rw [hM']; simp) | trace_state)
      | trace_state
end Go.Vd

set_option linter.unusedVariables false
set_option linter.unusedSimpArgs false
set_option maxRecDepth 100000
set_option maxHeartbeats 8000000
namespace Go.Vd
open Go.Proofs
theorem lstOf_U (L : List Dl) : lstOf eD D0 6 L.length (rowF eD { k := 0, pan := [], am := 0, s := 0, r := [], code := [] } std fun _ => L) = L := lstOf_lit inj_eD L
theorem isRow_U (L : List Dl) : isRow eD D0 6 L.length (rowF eD { k := 0, pan := [], am := 0, s := 0, r := [], code := [] } std fun _ => L) := isRow_lit L
def cnt (L : List Dl) (k : Int) : Nat := (L.filter fun d => decide (d.k = k)).length
theorem cnt_succ {L : List Dl} {i : Nat} (h : i < L.length) (k : Int) : cnt (L.take (i + 1)) k = cnt (L.take i) k + (if (L.getD i D0).k = k then 1 else 0) := by
  unfold cnt
  rw [← take_snoc (d := D0) h, List.filter_append, List.length_append]
  congr 1
  by_cases e : (L.getD i D0).k = k <;> simp [List.filter_cons, e, -List.getD_eq_getElem?_getD]
theorem cnt_le (L : List Dl) (k : Int) : cnt L k ≤ L.length := List.length_filter_le _ _
theorem good_trCount (L : List Dl) (k : Int) (hL : L.length ≤ 1000000) : GoodP Tryz.prog gl0 78 [rowS eD D0 6 std fun _ => L, .int .i64 k] (.int .i64 (std.ti fun _ => (cnt L k : Int))) := by
  refine fn_sound' (T := seatT) (G := noC) (X := noX) seatT_ok noC_ok noX_ok noI_ok mixed Tryz.func78 (.one) (fun A => [rowS eD D0 6 A fun _ => L, .int .i64 k]) (fun A => .int .i64 (A.ti fun _ => (cnt L k : Int))) fun A hA => ?_
  cbv
  repeat' (first | with_reducible exact True.intro | with_reducible exact dr_ok hA (by kernel_rfl) | with_reducible refine And.intro ?_ ?_ | (intro hc; cbv))
  refine ⟨⟨{p : Nat × Nat // p.1 ≤ L.length ∧ p.2 = cnt (L.take p.1) k}, fun b p => [(5, .int .i64 (p.1.2 : Nat)), (6, .int .i64 (p.1.1 : Nat))], fun b p => [], fun p => L.length - p.1.1, true⟩, ⟨⟨(0, 0), by omega, rfl⟩, ?_⟩, ?_⟩
  · cbv
    subst hA
    simp [-List.getD_eq_getElem?_getD, sS, strOf_lit, lstOf_lit inj_eB, lstOf_lit inj_eZ, lstOf_lit inj_eBs, lstOf_lit inj_eS, isRow_lit, isB_lit, isRow_nil, lstOf_nil inj_eB, lstOf_nil inj_eZ, lstOf_nil inj_eBs, lstOf_nil inj_eS]
  · rintro ⟨⟨i, n⟩, hx⟩
    have hi := hx.1
    have hn := hx.2
    simp only at hi hn
    have hnl : n ≤ L.length := by rw [hn]; exact Nat.le_trans (cnt_le _ _) (by rw [List.length_take]; omega)
    rcases Nat.lt_or_ge i L.length with hlt | hge
    · obtain ⟨d, hd⟩ : ∃ d, d = L.getD i D0 := ⟨_, rfl⟩
      have hg : L.getD i { k := 0, pan := [], am := 0, s := 0, r := [], code := [] } = d := hd.symm
      have hs := cnt_succ hlt k
      rw [← hd] at hs
      cbv
      repeat' (first | with_reducible exact True.intro | with_reducible exact dr_ok hA (by kernel_rfl) | with_reducible refine And.intro ?_ ?_ | (intro hc; cbv))
      all_goals first
        | (fail_if_success (refine Exists.intro ?_ ?_)
           subst hA
           try dsimp only
           simp [-List.getD_eq_getElem?_getD, sS, strOf_lit, lstOf_lit inj_eB, lstOf_lit inj_eZ, lstOf_lit inj_eBs, lstOf_lit inj_eS, isRow_lit, isB_lit, isRow_nil, lstOf_nil inj_eB, lstOf_nil inj_eZ, lstOf_nil inj_eBs, lstOf_nil inj_eS, hg]
           first
             | done
             | omega
             | (exfalso; simp [-List.getD_eq_getElem?_getD, sS, strOf_lit, lstOf_lit inj_eB, lstOf_lit inj_eZ, lstOf_lit inj_eBs, lstOf_lit inj_eS, isRow_lit, isB_lit, isRow_nil, lstOf_nil inj_eB, lstOf_nil inj_eZ, lstOf_nil inj_eBs, lstOf_nil inj_eS] at hc; omega)
             | trace_state)
        | (obtain ⟨i', hi'⟩ : ∃ i', i' = i + 1 := ⟨_, rfl⟩
           obtain ⟨n', hn'⟩ : ∃ n', n' = cnt (L.take i') k := ⟨_, rfl⟩
           have c1 : i' ≤ L.length := by omega
           refine ⟨⟨(i', n'), c1, hn'⟩, ?_, show L.length - i' < L.length - i by omega⟩
           rw [hi', hs, ← hn] at hn'
           cbv
           subst hA
           simp [-List.getD_eq_getElem?_getD, sS, strOf_lit, lstOf_lit inj_eB, lstOf_lit inj_eZ, lstOf_lit inj_eBs, lstOf_lit inj_eS, isRow_lit, isB_lit, isRow_nil, lstOf_nil inj_eB, lstOf_nil inj_eZ, lstOf_nil inj_eBs, lstOf_nil inj_eS, hg] at hc ⊢
           simp [hc] at hn'
           first
             | exact ⟨w_succ hn' (by omega), w_succ hi' (by omega)⟩
             | exact ⟨congrArg Nat.cast hn'.symm, w_succ hi' (by omega)⟩
             | trace_state)
        | trace_state
    · have hie : i = L.length := by omega
      have hne : n = cnt L k := by rw [hn, hie, List.take_length]
      cbv
      repeat' (first | with_reducible exact True.intro | with_reducible exact dr_ok hA (by kernel_rfl) | with_reducible refine And.intro ?_ ?_ | (intro hc; cbv))
      all_goals first
        | (fail_if_success (refine Exists.intro ?_ ?_)
           subst hA
           try dsimp only
           simp [-List.getD_eq_getElem?_getD, sS, strOf_lit, lstOf_lit inj_eB, lstOf_lit inj_eZ, lstOf_lit inj_eBs, lstOf_lit inj_eS, isRow_lit, isB_lit, isRow_nil, lstOf_nil inj_eB, lstOf_nil inj_eZ, lstOf_nil inj_eBs, lstOf_nil inj_eS]
           first
             | done
             | (rw [hne]; done)
             | omega
             | (exfalso; simp [-List.getD_eq_getElem?_getD, sS, strOf_lit, lstOf_lit inj_eB, lstOf_lit inj_eZ, lstOf_lit inj_eBs, lstOf_lit inj_eS, isRow_lit, isB_lit, isRow_nil, lstOf_nil inj_eB, lstOf_nil inj_eZ, lstOf_nil inj_eBs, lstOf_nil inj_eS] at hc; omega)
             | (exfalso; rename_i q; simp [-List.getD_eq_getElem?_getD, sS, strOf_lit, lstOf_lit inj_eB, lstOf_lit inj_eZ, lstOf_lit inj_eBs, lstOf_lit inj_eS, isRow_lit, isB_lit, isRow_nil, lstOf_nil inj_eB, lstOf_nil inj_eZ, lstOf_nil inj_eBs, lstOf_nil inj_eS] at q; omega)
             | trace_state)
        | (exfalso; subst hA; simp [-List.getD_eq_getElem?_getD, sS, strOf_lit, lstOf_lit inj_eB, lstOf_lit inj_eZ, lstOf_lit inj_eBs, lstOf_lit inj_eS, isRow_lit, isB_lit, isRow_nil, lstOf_nil inj_eB, lstOf_nil inj_eZ, lstOf_nil inj_eBs, lstOf_nil inj_eS] at hc; omega)
        | (exfalso; subst hA; rename_i q; simp [-List.getD_eq_getElem?_getD, sS, strOf_lit, lstOf_lit inj_eB, lstOf_lit inj_eZ, lstOf_lit inj_eBs, lstOf_lit inj_eS, isRow_lit, isB_lit, isRow_nil, lstOf_nil inj_eB, lstOf_nil inj_eZ, lstOf_nil inj_eBs, lstOf_nil inj_eS] at q; omega)
        | trace_state
noncomputable def iPA2 : Nat → Option Func := addI 77 Tryz.f77 noI
theorem iPA2_ok : InOk Tryz.prog iPA2 := addI_ok noI_ok Tryz.func77 (by kernel_rfl)
def fA2 (d : Dl) : Bool := decide (d.k = 2)
theorem good_trPick1 (L : List Dl) (hL : L.length ≤ 1000000) : GoodP Tryz.prog gl0 76 [rowS eD D0 6 std fun _ => L, .clo 77 []] (rowS eD D0 6 std fun _ => L.filter fA2) := by
  refine fn_sound' (T := seatT) (G := noC) (X := noX) seatT_ok noC_ok noX_ok iPA2_ok mixed Tryz.func76 (.none) (fun A => [rowS eD D0 6 A fun _ => L, .clo 77 []]) (fun A => rowS eD D0 6 A fun _ => L.filter fA2) fun A hA => ?_
  cbv
  repeat' (first | with_reducible exact True.intro | with_reducible exact dr_ok hA (by kernel_rfl) | with_reducible refine And.intro ?_ ?_ | (intro hc; cbv))
  refine ⟨⟨{p : Nat × List Dl // p.1 ≤ L.length ∧ p.2 = (L.take p.1).filter fA2}, fun b p => [(5, .own b), (10, .int .i64 (p.1.1 : Nat))], fun b p => [(b, .row 29 6 (A.tn fun _ => p.1.2.length) (rowF eD D0 A fun _ => p.1.2))], fun p => L.length - p.1.1, true⟩, ⟨⟨(0, []), by omega, rfl⟩, ?_⟩, ?_⟩
  · cbv
    subst hA
    simp [-List.getD_eq_getElem?_getD, sS, strOf_lit, lstOf_lit inj_eB, lstOf_lit inj_eZ, lstOf_lit inj_eBs, lstOf_lit inj_eS, isRow_lit, isB_lit, isRow_nil, lstOf_nil inj_eB, lstOf_nil inj_eZ, lstOf_nil inj_eBs, lstOf_nil inj_eS]
  · rintro ⟨⟨i, M⟩, hx⟩
    have hi := hx.1
    have hM := hx.2
    simp only at hi hM
    have hMl : M.length ≤ i := by rw [hM]; exact Nat.le_trans (List.length_filter_le _ _) (by rw [List.length_take]; omega)
    rcases Nat.lt_or_ge i L.length with hlt | hge
    · obtain ⟨d, hd⟩ : ∃ d, d = L.getD i D0 := ⟨_, rfl⟩
      have hg : L.getD i { k := 0, pan := [], am := 0, s := 0, r := [], code := [] } = d := hd.symm
      have hyes : fA2 d = true → (L.take (i + 1)).filter fA2 = M ++ [d] := fun h => by rw [← take_snoc (d := D0) hlt, List.filter_append, ← hd, ← hM, List.filter_cons, if_pos h]; rfl
      have hno : fA2 d = false → (L.take (i + 1)).filter fA2 = M := fun h => by rw [← take_snoc (d := D0) hlt, List.filter_append, ← hd, ← hM, List.filter_cons, if_neg (by rw [h]; simp)]; simp
      cbv
      repeat' (first | with_reducible exact True.intro | with_reducible exact dr_ok hA (by kernel_rfl) | with_reducible refine And.intro ?_ ?_ | (intro hc; cbv))
      all_goals first
        | (fail_if_success (refine Exists.intro ?_ ?_)
           subst hA
           try dsimp only
           simp [-List.getD_eq_getElem?_getD, sS, strOf_lit, lstOf_lit inj_eB, lstOf_lit inj_eZ, lstOf_lit inj_eBs, lstOf_lit inj_eS, isRow_lit, isB_lit, isRow_nil, lstOf_nil inj_eB, lstOf_nil inj_eZ, lstOf_nil inj_eBs, lstOf_nil inj_eS, hg]
           first
             | done
             | omega
             | ((with_reducible refine And.intro ?_ ?_) <;> omega)
             | (exfalso; simp [-List.getD_eq_getElem?_getD, sS, strOf_lit, lstOf_lit inj_eB, lstOf_lit inj_eZ, lstOf_lit inj_eBs, lstOf_lit inj_eS, isRow_lit, isB_lit, isRow_nil, lstOf_nil inj_eB, lstOf_nil inj_eZ, lstOf_nil inj_eBs, lstOf_nil inj_eS] at hc; omega)
             | trace_state)
        | (obtain ⟨i', hi'⟩ : ∃ i', i' = i + 1 := ⟨_, rfl⟩
           obtain ⟨M', hM'⟩ : ∃ M', M' = (L.take i').filter fA2 := ⟨_, rfl⟩
           have c1 : i' ≤ L.length := by omega
           refine ⟨⟨(i', M'), c1, hM'⟩, ?_, show L.length - i' < L.length - i by omega⟩
           rw [hi'] at hM'
           cbv
           subst hA
           simp [-List.getD_eq_getElem?_getD, sS, strOf_lit, lstOf_lit inj_eB, lstOf_lit inj_eZ, lstOf_lit inj_eBs, lstOf_lit inj_eS, isRow_lit, isB_lit, isRow_nil, lstOf_nil inj_eB, lstOf_nil inj_eZ, lstOf_nil inj_eBs, lstOf_nil inj_eS, hg] at hc ⊢
           first
             | (have hf : fA2 d = true := by simp [fA2, hc]
                rw [hyes hf] at hM'
                refine ⟨?_, ?_, ?_⟩
                all_goals first | exact w_succ hi' (by omega) | (rw [hM']; simp; done) | exact snoc_row rfl (cell_eD _) hM'.symm (by rw [hM']; simp))
             | (have hf : fA2 d = false := by simp [fA2, hc]
                rw [hno hf] at hM'
                refine ⟨?_, ?_, ?_⟩
                all_goals first | exact w_succ hi' (by omega) | (rw [hM']; done) | (rw [hM']; exact (Reps.lit _).eqr))
             | trace_state)
        | trace_state
    · have hie : i = L.length := by omega
      have hne : M = L.filter fA2 := by rw [hM, hie, List.take_length]
      cbv
      repeat' (first | with_reducible exact True.intro | with_reducible exact dr_ok hA (by kernel_rfl) | with_reducible refine And.intro ?_ ?_ | (intro hc; cbv))
      all_goals first
        | (fail_if_success (refine Exists.intro ?_ ?_)
           subst hA
           try dsimp only
           simp [-List.getD_eq_getElem?_getD, sS, strOf_lit, lstOf_lit inj_eB, lstOf_lit inj_eZ, lstOf_lit inj_eBs, lstOf_lit inj_eS, isRow_lit, isB_lit, isRow_nil, lstOf_nil inj_eB, lstOf_nil inj_eZ, lstOf_nil inj_eBs, lstOf_nil inj_eS]
           first
             | done
             | (rw [hne]; done)
             | (rw [hne]; exact (Reps.lit _).eqr)
             | omega
             | ((with_reducible refine And.intro ?_ ?_) <;> omega)
             | (exfalso; simp [-List.getD_eq_getElem?_getD, sS, strOf_lit, lstOf_lit inj_eB, lstOf_lit inj_eZ, lstOf_lit inj_eBs, lstOf_lit inj_eS, isRow_lit, isB_lit, isRow_nil, lstOf_nil inj_eB, lstOf_nil inj_eZ, lstOf_nil inj_eBs, lstOf_nil inj_eS] at hc; omega)
             | (exfalso; rename_i q; simp [-List.getD_eq_getElem?_getD, sS, strOf_lit, lstOf_lit inj_eB, lstOf_lit inj_eZ, lstOf_lit inj_eBs, lstOf_lit inj_eS, isRow_lit, isB_lit, isRow_nil, lstOf_nil inj_eB, lstOf_nil inj_eZ, lstOf_nil inj_eBs, lstOf_nil inj_eS] at q; omega)
             | trace_state)
        | (exfalso; subst hA; simp [-List.getD_eq_getElem?_getD, sS, strOf_lit, lstOf_lit inj_eB, lstOf_lit inj_eZ, lstOf_lit inj_eBs, lstOf_lit inj_eS, isRow_lit, isB_lit, isRow_nil, lstOf_nil inj_eB, lstOf_nil inj_eZ, lstOf_nil inj_eBs, lstOf_nil inj_eS] at hc; omega)
        | (exfalso; subst hA; rename_i q; simp [-List.getD_eq_getElem?_getD, sS, strOf_lit, lstOf_lit inj_eB, lstOf_lit inj_eZ, lstOf_lit inj_eBs, lstOf_lit inj_eS, isRow_lit, isB_lit, isRow_nil, lstOf_nil inj_eB, lstOf_nil inj_eZ, lstOf_nil inj_eBs, lstOf_nil inj_eS] at q; omega)
        | trace_state
noncomputable def iPM2 : Nat → Option Func := addI 79 Tryz.f79 noI
theorem iPM2_ok : InOk Tryz.prog iPM2 := addI_ok noI_ok Tryz.func79 (by kernel_rfl)
def fM2 (d : Dl) : Bool := !decide (d.code = [57, 52]) && !decide (d.code = [57, 54])
theorem good_trPick2 (L : List Dl) (hL : L.length ≤ 1000000) : GoodP Tryz.prog gl0 76 [rowS eD D0 6 std fun _ => L, .clo 79 []] (rowS eD D0 6 std fun _ => L.filter fM2) := by
  refine fn_sound' (T := seatT) (G := noC) (X := noX) seatT_ok noC_ok noX_ok iPM2_ok mixed Tryz.func76 (.none) (fun A => [rowS eD D0 6 A fun _ => L, .clo 79 []]) (fun A => rowS eD D0 6 A fun _ => L.filter fM2) fun A hA => ?_
  cbv
  repeat' (first | with_reducible exact True.intro | with_reducible exact dr_ok hA (by kernel_rfl) | with_reducible refine And.intro ?_ ?_ | (intro hc; cbv))
  refine ⟨⟨{p : Nat × List Dl // p.1 ≤ L.length ∧ p.2 = (L.take p.1).filter fM2}, fun b p => [(5, .own b), (10, .int .i64 (p.1.1 : Nat))], fun b p => [(b, .row 29 6 (A.tn fun _ => p.1.2.length) (rowF eD D0 A fun _ => p.1.2))], fun p => L.length - p.1.1, true⟩, ⟨⟨(0, []), by omega, rfl⟩, ?_⟩, ?_⟩
  · cbv
    subst hA
    simp [-List.getD_eq_getElem?_getD, sS, strOf_lit, lstOf_lit inj_eB, lstOf_lit inj_eZ, lstOf_lit inj_eBs, lstOf_lit inj_eS, isRow_lit, isB_lit, isRow_nil, lstOf_nil inj_eB, lstOf_nil inj_eZ, lstOf_nil inj_eBs, lstOf_nil inj_eS]
  · rintro ⟨⟨i, M⟩, hx⟩
    have hi := hx.1
    have hM := hx.2
    simp only at hi hM
    have hMl : M.length ≤ i := by rw [hM]; exact Nat.le_trans (List.length_filter_le _ _) (by rw [List.length_take]; omega)
    rcases Nat.lt_or_ge i L.length with hlt | hge
    · obtain ⟨d, hd⟩ : ∃ d, d = L.getD i D0 := ⟨_, rfl⟩
      have hg : L.getD i { k := 0, pan := [], am := 0, s := 0, r := [], code := [] } = d := hd.symm
      have hyes : fM2 d = true → (L.take (i + 1)).filter fM2 = M ++ [d] := fun h => by rw [← take_snoc (d := D0) hlt, List.filter_append, ← hd, ← hM, List.filter_cons, if_pos h]; rfl
      have hno : fM2 d = false → (L.take (i + 1)).filter fM2 = M := fun h => by rw [← take_snoc (d := D0) hlt, List.filter_append, ← hd, ← hM, List.filter_cons, if_neg (by rw [h]; simp)]; simp
      cbv
      repeat' (first | with_reducible exact True.intro | with_reducible exact dr_ok hA (by kernel_rfl) | with_reducible refine And.intro ?_ ?_ | (intro hc; cbv))
      all_goals first
        | (fail_if_success (refine Exists.intro ?_ ?_)
           subst hA
           try dsimp only
           simp [-List.getD_eq_getElem?_getD, sS, strOf_lit, lstOf_lit inj_eB, lstOf_lit inj_eZ, lstOf_lit inj_eBs, lstOf_lit inj_eS, isRow_lit, isB_lit, isRow_nil, lstOf_nil inj_eB, lstOf_nil inj_eZ, lstOf_nil inj_eBs, lstOf_nil inj_eS, hg]
           first
             | done
             | omega
             | ((with_reducible refine And.intro ?_ ?_) <;> omega)
             | (exfalso; simp [-List.getD_eq_getElem?_getD, sS, strOf_lit, lstOf_lit inj_eB, lstOf_lit inj_eZ, lstOf_lit inj_eBs, lstOf_lit inj_eS, isRow_lit, isB_lit, isRow_nil, lstOf_nil inj_eB, lstOf_nil inj_eZ, lstOf_nil inj_eBs, lstOf_nil inj_eS] at hc; omega)
             | trace_state)
        | (obtain ⟨i', hi'⟩ : ∃ i', i' = i + 1 := ⟨_, rfl⟩
           obtain ⟨M', hM'⟩ : ∃ M', M' = (L.take i').filter fM2 := ⟨_, rfl⟩
           have c1 : i' ≤ L.length := by omega
           refine ⟨⟨(i', M'), c1, hM'⟩, ?_, show L.length - i' < L.length - i by omega⟩
           rw [hi'] at hM'
           cbv
           subst hA
           simp [-List.getD_eq_getElem?_getD, sS, strOf_lit, lstOf_lit inj_eB, lstOf_lit inj_eZ, lstOf_lit inj_eBs, lstOf_lit inj_eS, isRow_lit, isB_lit, isRow_nil, lstOf_nil inj_eB, lstOf_nil inj_eZ, lstOf_nil inj_eBs, lstOf_nil inj_eS, hg] at hc ⊢
           first
             | (have hf : fM2 d = true := by simp [fM2, hc]
                rw [hyes hf] at hM'
                refine ⟨?_, ?_, ?_⟩
                all_goals first | exact w_succ hi' (by omega) | (rw [hM']; simp; done) | exact snoc_row rfl (cell_eD _) hM'.symm (by rw [hM']; simp))
             | (have hf : fM2 d = false := by
                  unfold fM2
                  by_cases e : d.code = [57, 52]
                  · simp [e]
                  · simp [e, hc e]
                rw [hno hf] at hM'
                refine ⟨?_, ?_, ?_⟩
                all_goals first | exact w_succ hi' (by omega) | (rw [hM']; done) | (rw [hM']; exact (Reps.lit _).eqr))
             | trace_state)
        | trace_state
    · have hie : i = L.length := by omega
      have hne : M = L.filter fM2 := by rw [hM, hie, List.take_length]
      cbv
      repeat' (first | with_reducible exact True.intro | with_reducible exact dr_ok hA (by kernel_rfl) | with_reducible refine And.intro ?_ ?_ | (intro hc; cbv))
      all_goals first
        | (fail_if_success (refine Exists.intro ?_ ?_)
           subst hA
           try dsimp only
           simp [-List.getD_eq_getElem?_getD, sS, strOf_lit, lstOf_lit inj_eB, lstOf_lit inj_eZ, lstOf_lit inj_eBs, lstOf_lit inj_eS, isRow_lit, isB_lit, isRow_nil, lstOf_nil inj_eB, lstOf_nil inj_eZ, lstOf_nil inj_eBs, lstOf_nil inj_eS]
           first
             | done
             | (rw [hne]; done)
             | (rw [hne]; exact (Reps.lit _).eqr)
             | omega
             | ((with_reducible refine And.intro ?_ ?_) <;> omega)
             | (exfalso; simp [-List.getD_eq_getElem?_getD, sS, strOf_lit, lstOf_lit inj_eB, lstOf_lit inj_eZ, lstOf_lit inj_eBs, lstOf_lit inj_eS, isRow_lit, isB_lit, isRow_nil, lstOf_nil inj_eB, lstOf_nil inj_eZ, lstOf_nil inj_eBs, lstOf_nil inj_eS] at hc; omega)
             | (exfalso; rename_i q; simp [-List.getD_eq_getElem?_getD, sS, strOf_lit, lstOf_lit inj_eB, lstOf_lit inj_eZ, lstOf_lit inj_eBs, lstOf_lit inj_eS, isRow_lit, isB_lit, isRow_nil, lstOf_nil inj_eB, lstOf_nil inj_eZ, lstOf_nil inj_eBs, lstOf_nil inj_eS] at q; omega)
             | trace_state)
        | (exfalso; subst hA; simp [-List.getD_eq_getElem?_getD, sS, strOf_lit, lstOf_lit inj_eB, lstOf_lit inj_eZ, lstOf_lit inj_eBs, lstOf_lit inj_eS, isRow_lit, isB_lit, isRow_nil, lstOf_nil inj_eB, lstOf_nil inj_eZ, lstOf_nil inj_eBs, lstOf_nil inj_eS] at hc; omega)
        | (exfalso; subst hA; rename_i q; simp [-List.getD_eq_getElem?_getD, sS, strOf_lit, lstOf_lit inj_eB, lstOf_lit inj_eZ, lstOf_lit inj_eBs, lstOf_lit inj_eS, isRow_lit, isB_lit, isRow_nil, lstOf_nil inj_eB, lstOf_nil inj_eZ, lstOf_nil inj_eBs, lstOf_nil inj_eS] at q; omega)
        | trace_state
end Go.Vd

