/- Order, awake, and the law KeyOrder. -/
import Derived.Test.YtfdpbeojmmjgladVcKeyV
set_option linter.unusedVariables false
namespace Go.Vc
open Go.Proofs
set_option maxRecDepth 100000
def or2 (a b : Int) : Int := if a = 0 then b else a
def orF (f : Nat → Nat → SV) : Int := match f 0 0, f 1 0 with
  | .int .i64 a, .int .i64 b => or2 a b
  | _, _ => 0
def orP (f : Nat → Nat → SV) : Prop := ∃ a b, f 0 0 = .int .i64 a ∧ f 1 0 = .int .i64 b
def g3 (oi : Int → Int → Int) (os : List UInt8 → List UInt8 → Int) (op : (Nat → Nat → SV) → Prop) (oo : (Nat → Nat → SV) → Int) : Pu := fun f args => match f, args with
  | 49, [.int .u32 a, .int .u32 b] => some (none, .int .i64 (oi a b))
  | 50, [.str a, .str b] => some (none, .int .i64 (os a b))
  | 48, [.slc 2 1 f] => some (some (op f), .int .i64 (oo f))
  | _, _ => none
theorem good48' (f : Nat → Nat → SV) (h : orP f) : GoodP Try.prog 48 [.slc 2 1 f] (.int .i64 (orF f)) := by
  obtain ⟨a, b, ha, hb⟩ := h
  have h1 := good48 fun i => if i = 0 then a else b
  refine good_slc (fun i j hi hj => ?_) (by simpa [orF, ha, hb, or2] using h1)
  obtain rfl : j = 0 := by omega
  match i, hi with
  | 0, _ => simpa using ha
  | 1, _ => simpa using hb
theorem g3_ok : PuOk Try.prog (g3 ordI ordS orP orF) := by
  intro f args p r h hp
  unfold g3 at h
  split at h <;> cases h
  · exact ⟨⟨_, Try.func49, rfl, by decide⟩, good49 _ _⟩
  · exact ⟨⟨_, Try.func50, rfl, by decide⟩, good50 _ _⟩
  · exact ⟨⟨_, Try.func48, rfl, by decide⟩, good48' _ hp⟩
def ordK (s : Int) (r : List UInt8) (s' : Int) (r' : List UInt8) : Int := or2 (ordI s s') (ordS r r')
theorem good14 (s : Int) (r : List UInt8) (s' : Int) (r' : List UInt8) : GoodP Try.prog 14 [.agg [.int .u32 s, .str r], .agg [.int .u32 s', .str r']] (.int .i64 (ordK s r s' r')) := by
  refine fn_sound' keyTys_ok g3_ok key_mixed Try.func14 fun A q hA hq => ?_
  obtain ⟨oi, hoi⟩ : ∃ f, f = ordI := ⟨_, rfl⟩
  obtain ⟨os, hos⟩ : ∃ f, f = ordS := ⟨_, rfl⟩
  obtain ⟨op, hop⟩ : ∃ f, f = orP := ⟨_, rfl⟩
  obtain ⟨oo, hoo⟩ : ∃ f, f = orF := ⟨_, rfl⟩
  rw [← hoi, ← hos, ← hop, ← hoo]
  cbv
  refine ⟨?_, ?_, ?_⟩
  · subst hA; simp only [std]; kernel_rfl
  · subst hop hA; exact ⟨_, _, rfl, rfl⟩
  · subst hA hq hoi hos hoo; rfl
def g4 (rt : Int → List UInt8 → Bool) (sh : Int → List UInt8 → Int → Int) (le1' : Int → Prop) (ok : Int → List UInt8 → Int → List UInt8 → Int) : Pu := fun f args => match f, args with
  | 12, [.agg [.int .u32 s, .str r]] => some (none, .bool (rt s r))
  | 16, [.agg [.int .u32 s, .str r], .int .i64 m] => some (some (le1' m), .int .i64 (sh s r m))
  | 14, [.agg [.int .u32 s, .str r], .agg [.int .u32 s', .str r']] => some (none, .int .i64 (ok s r s' r'))
  | 11, [.agg [.int .i64 a, .str b, .int .u64 c, .int .u32 s, .str r, .str e]] => some (none, .agg [.int .u32 s, .str r])
  | _, _ => none
theorem g4_ok : PuOk Try.prog (g4 right0 shard1 (· ≤ 1) ordK) := by
  intro f args p r h hp
  unfold g4 at h
  split at h <;> cases h
  · exact ⟨⟨_, Try.func12, rfl, by decide⟩, good12 _ _⟩
  · exact ⟨⟨_, Try.func16, rfl, by decide⟩, good16 _ _ _ hp⟩
  · exact ⟨⟨_, Try.func14, rfl, by decide⟩, good14 _ _ _ _⟩
  · exact ⟨⟨_, Try.func11, rfl, by decide⟩, good11 _ _ _ _ _ _⟩
theorem good8 : GoodP Try.prog 8 [] (.bool true) := by
  refine fn_sound' keyTys_ok g4_ok key_mixed Try.func8 fun A q hA hq => ?_
  obtain ⟨rt, hrt⟩ : ∃ f, f = right0 := ⟨_, rfl⟩
  obtain ⟨sh, hsh⟩ : ∃ f, f = shard1 := ⟨_, rfl⟩
  obtain ⟨lp, hlp⟩ : ∃ f : Int → Prop, f = (· ≤ 1) := ⟨_, rfl⟩
  obtain ⟨ok, hok⟩ : ∃ f, f = ordK := ⟨_, rfl⟩
  rw [← hrt, ← hsh, ← hlp, ← hok]
  cbv
  have e1 : ok 1 [82, 82, 78, 48, 48, 48, 48, 48, 48, 48, 48, 50] 2 [82, 82, 78, 48, 48, 48, 48, 48, 48, 48, 48, 49] = -1 := by subst hok; decide +kernel
  have e2 : ok 2 [82, 82, 78, 48, 48, 48, 48, 48, 48, 48, 48, 49] 1 [82, 82, 78, 48, 48, 48, 48, 48, 48, 48, 48, 50] = 1 := by subst hok; decide +kernel
  have e3 : rt 1 [82, 82, 78, 48, 48, 48, 48, 48, 48, 48, 48, 50] = true := by subst hrt; decide +kernel
  have e4 : rt 0 [] = false := by subst hrt; decide +kernel
  have e5 : sh 1 [82, 82, 78, 48, 48, 48, 48, 48, 48, 48, 48, 50] 1 = 0 := by subst hsh; decide +kernel
  have e6 : sh 1 [82, 82, 78, 48, 48, 48, 48, 48, 48, 48, 48, 50] 0 = -1 := by subst hsh; decide +kernel
  rw [e1, e2, e3, e4, e5, e6]
  clear e1 e2 e3 e4 e5 e6 hrt hsh hok
  subst hA hq hlp
  simp [std]
def g5 (ok : Int → List UInt8 → Int → List UInt8 → Int) (sh : List UInt8 → Bool) : Pu := fun f args => match f, args with
  | 8, [] => some (none, .bool true)
  | 10, [.agg [.int .u32 s, .str r]] => some (none, .bool (sh r))
  | 14, [.agg [.int .u32 s, .str r], .agg [.int .u32 s', .str r']] => some (none, .int .i64 (ok s r s' r'))
  | _, _ => none
def short (r : List UInt8) : Bool := decide (r.length ≤ 300)
theorem g5_ok : PuOk Try.prog (g5 ordK short) := by
  intro f args p r h hp
  unfold g5 at h
  split at h <;> cases h
  · exact ⟨⟨_, Try.func8, rfl, by decide⟩, good8⟩
  · exact ⟨⟨_, Try.func10, rfl, by decide⟩, good10 _ _⟩
  · exact ⟨⟨_, Try.func14, rfl, by decide⟩, good14 _ _ _ _⟩
theorem triI (a b : Int) : (a < b ∧ ordI a b = -1) ∨ (a = b ∧ ordI a b = 0) ∨ (b < a ∧ ordI a b = 1) := by
  unfold ordI
  rcases Int.lt_trichotomy a b with h | h | h
  · exact .inl ⟨h, if_pos h⟩
  · subst h; simp
  · exact .inr (.inr ⟨h, by rw [if_neg (by omega), if_pos h]⟩)
theorem triS (a b : List UInt8) : (a < b ∧ a ≠ b ∧ ordS a b = -1) ∨ (a = b ∧ ordS a b = 0) ∨ (b < a ∧ a ≠ b ∧ ordS a b = 1) := by
  rw [ordS_eq]
  by_cases h : a < b
  · exact .inl ⟨h, fun e => by subst e; exact List.lt_irrefl _ h, if_pos h⟩
  · by_cases h' : b < a
    · exact .inr (.inr ⟨h', fun e => by subst e; exact h h', by rw [if_neg h, if_pos h']⟩)
    · exact .inr (.inl ⟨List.le_antisymm (List.not_lt.1 h') (List.not_lt.1 h), by rw [if_neg h, if_neg h']⟩)
theorem asS {a b : List UInt8} (h : a < b) (h' : b < a) : False := List.lt_irrefl _ (List.lt_trans h h')
theorem ordS_neg (a b : List UInt8) : ordS b a = -ordS a b := by
  rcases triS a b with ⟨h, _, e⟩ | ⟨h, e⟩ | ⟨h, _, e⟩ <;> rcases triS b a with ⟨h', _, e'⟩ | ⟨h', e'⟩ | ⟨h', _, e'⟩ <;> first | (rw [e, e']; done) | (rw [e, e']; rfl) | exact (asS h h').elim | (subst h; exact (List.lt_irrefl _ h').elim) | (subst h'; exact (List.lt_irrefl _ h).elim)
theorem ordS_tr (a b c : List UInt8) : (ordS a b ≤ 0 → ordS b c ≤ 0 → ordS a c ≤ 0) ∧ (ordS a b < 0 → ordS b c < 0 → ordS a c < 0) ∧ (ordS a b < 0 → ordS b c ≤ 0 → ordS a c < 0) ∧ (ordS a b ≤ 0 → ordS b c < 0 → ordS a c < 0) := by
  rcases triS a b with ⟨h, _, e⟩ | ⟨h, e⟩ | ⟨h, _, e⟩ <;> rcases triS b c with ⟨h', _, e'⟩ | ⟨h', e'⟩ | ⟨h', _, e'⟩ <;> rcases triS a c with ⟨h2, _, e2⟩ | ⟨h2, e2⟩ | ⟨h2, _, e2⟩ <;>
    rw [e, e', e2] <;> first
    | decide
    | (exfalso; first
      | exact asS (List.lt_trans h h') h2
      | (subst h2; exact asS h h')
      | (subst h; exact asS h' h2)
      | (subst h'; exact asS h h2)
      | (subst h h'; exact List.lt_irrefl _ h2)
      | (subst h h2; exact List.lt_irrefl _ h')
      | (subst h' h2; exact List.lt_irrefl _ h))
theorem ordK_or (s : Int) (r : List UInt8) (s' : Int) (r' : List UInt8) : (ordI s s' ≠ 0 ∧ ordK s r s' r' = ordI s s') ∨ (ordI s s' = 0 ∧ ordK s r s' r' = ordS r r') := by
  unfold ordK or2
  by_cases h : ordI s s' = 0
  · exact .inr ⟨h, if_pos h⟩
  · exact .inl ⟨h, if_neg h⟩
theorem ordK_neg (s1 s2 : Int) (r1 r2 : List UInt8) : ordK s1 r1 s2 r2 = -ordK s2 r2 s1 r1 ∧ (-1 ≤ ordK s2 r2 s1 r1 ∧ ordK s2 r2 s1 r1 ≤ 1) := by
  have k12 := ordK_or s1 r1 s2 r2
  have k21 := ordK_or s2 r2 s1 r1
  have n12 := ordS_neg r1 r2
  have b12 : -1 ≤ ordS r1 r2 ∧ ordS r1 r2 ≤ 1 := by rcases triS r1 r2 with ⟨_, _, e⟩ | ⟨_, e⟩ | ⟨_, _, e⟩ <;> rw [e] <;> decide
  rcases triI s1 s2 with ⟨h, e⟩ | ⟨h, e⟩ | ⟨h, e⟩ <;> rcases triI s2 s1 with ⟨h', e'⟩ | ⟨h', e'⟩ | ⟨h', e'⟩ <;> omega
theorem ordK_zero (s1 s2 : Int) (r1 r2 : List UInt8) : ordK s1 r1 s2 r2 = 0 ↔ s1 = s2 ∧ r1 = r2 := by
  have k12 := ordK_or s1 r1 s2 r2
  have z12 : ordS r1 r2 = 0 ↔ r1 = r2 := by
    rcases triS r1 r2 with ⟨_, n, e⟩ | ⟨n, e⟩ | ⟨_, n, e⟩ <;> rw [e] <;> simp [n]
  rw [← z12]
  rcases triI s1 s2 with ⟨h, e⟩ | ⟨h, e⟩ | ⟨h, e⟩ <;> omega
theorem ordK_tr (s1 s2 s3 : Int) (r1 r2 r3 : List UInt8) :
    (ordK s1 r1 s2 r2 ≤ 0 → ordK s2 r2 s3 r3 ≤ 0 → ordK s1 r1 s3 r3 ≤ 0) ∧ (ordK s1 r1 s2 r2 < 0 → ordK s2 r2 s3 r3 < 0 → ordK s1 r1 s3 r3 < 0) := by
  obtain ⟨t1, t2, t3, t4⟩ := ordS_tr r1 r2 r3
  have k12 := ordK_or s1 r1 s2 r2
  have k23 := ordK_or s2 r2 s3 r3
  have k13 := ordK_or s1 r1 s3 r3
  generalize ordK s1 r1 s2 r2 = x at *
  generalize ordK s2 r2 s3 r3 = y at *
  generalize ordK s1 r1 s3 r3 = z at *
  rcases triI s1 s2 with ⟨h, e⟩ | ⟨h, e⟩ | ⟨h, e⟩ <;> rcases triI s2 s3 with ⟨h', e'⟩ | ⟨h', e'⟩ | ⟨h', e'⟩ <;> rcases triI s1 s3 with ⟨h2, e2⟩ | ⟨h2, e2⟩ | ⟨h2, e2⟩ <;>
    first
    | (exfalso; omega)
    | (rw [e] at k12; rw [e'] at k23; rw [e2] at k13
       simp at k12 k23 k13
       subst k12 k23 k13
       constructor <;> intro h8 h9 <;> first | omega | exact t1 h8 h9 | exact t2 h8 h9)
theorem good4 (s1 s2 s3 : Int) (r1 r2 r3 : List UInt8) : GoodP Try.prog 4 [.agg [.int .u32 s1, .str r1], .agg [.int .u32 s2, .str r2], .agg [.int .u32 s3, .str r3]] (.bool true) := by
  refine fn_sound' keyTys_ok g5_ok key_mixed Try.func4 fun A q hA hq => ?_
  have hF := And.intro (ordK_neg s1 s2 r1 r2).1 (And.intro (ordK_neg s1 s2 r1 r2).2 (And.intro (ordK_zero s1 s2 r1 r2) (ordK_tr s1 s2 s3 r1 r2 r3)))
  obtain ⟨sh, hsh⟩ : ∃ f, f = short := ⟨_, rfl⟩
  obtain ⟨ok, hok⟩ : ∃ f, f = ordK := ⟨_, rfl⟩
  rw [← hok] at hF
  rw [← hsh, ← hok]
  clear hok hsh
  cbv
  refine ⟨fun h => ?_, fun _ => ?_⟩ <;> cbv
  · subst hA; simp [std] at h
  · repeat (refine ⟨?_, ?_⟩; focus (subst hA; simp [std]; done))
    refine ⟨?_, ?_⟩
    · intro h
      cbv
      exact hq.symm
    · intro h
      cbv
      refine ⟨?_, ?_⟩
      · subst hA; simp only [std]; kernel_rfl
      · obtain ⟨f1, ⟨f2, f2'⟩, f3, f4, f5⟩ := hF
        generalize ok s1 r1 s2 r2 = x at f1 f3 f4 f5 ⊢
        generalize ok s2 r2 s1 r1 = x' at f1 f2 f2' ⊢
        generalize ok s2 r2 s3 r3 = y at f4 f5 ⊢
        generalize ok s1 r1 s3 r3 = z at f4 f5 ⊢
        subst hA hq
        have hw : IntKind.i64.wrap (-x') = x := by rw [w64 (by omega)]; omega
        have hz : (x == 0) = (s1 == s2 && r1 == r2) := by
          rw [Bool.eq_iff_iff]
          simpa using f3
        simp [std, hw, hz]
        clear h f3 f1 hw hz f2 f2'
        refine ⟨fun a => ⟨a, fun b => ⟨a, b⟩⟩, fun a => ⟨a, fun b c => ⟨a, b, c⟩⟩, by omega, by omega⟩
end Go.Vc
