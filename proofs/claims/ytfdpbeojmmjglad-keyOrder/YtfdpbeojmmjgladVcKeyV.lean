/- The first that isn't 0; whether a key is right; its shard. -/
import Derived.Test.YtfdpbeojmmjgladVcKeyU
import Derived.IntWalk
set_option linter.unusedVariables false
namespace Go.Vc
open Go.Proofs
set_option maxRecDepth 100000
theorem w64 {n : Int} (h : -9223372036854775808 ≤ n ∧ n ≤ 9223372036854775807) : IntKind.i64.wrap n = n := by rw [IntKind.wrap_i64]; omega
def h48 (A : Ar) (g : Nat → Int) (i : Int) : St := { next := 5, tmps := [.slc 2 1 fun i _ => .int .i64 (g i), .any, .int .i64 0, .int .i64 0, .any, .any, .slc 2 1 fun i _ => .int .i64 (g i), .int .i64 (A.ofNat 2), .int .i64 i, .any, .any, .any, .any, .any, .any, .any, .any, .any], mem := [] }
theorem good48 (g : Nat → Int) : GoodP Try.prog 48 [.slc 2 1 fun i _ => .int .i64 (g i)] (.int .i64 (if g 0 = 0 then g 1 else g 0)) := by
  refine fn_sound' keyTys_ok none0_ok key_mixed Try.func48 fun A q hA hq => ?_
  cbv
  refine ⟨⟨{i : Int // 0 ≤ i ∧ i ≤ 2 ∧ ∀ j : Nat, j < i.toNat → g j = 0}, fun i => h48 A g i.1, fun i => (2 - i.1).toNat⟩, ⟨⟨0, by omega, by omega, fun j h => by simp at h⟩, [], ?_⟩, ?_⟩
  · simp [h48, leSt, leT, le2, le1, leM, renOk, noDup]
    exact ⟨1, _, ⟨rfl, rfl⟩, rfl, fun _ _ => rfl⟩
  · rintro ⟨i, h1, h2, h3⟩
    cbv
    refine ⟨fun h => ?_, fun h => ?_⟩ <;> cbv
    · refine ⟨?_, ?_⟩
      · subst hA; simp [std] at h ⊢; omega
      · refine ⟨fun h' => ?_, fun h' => ?_⟩ <;> cbv
        · subst hA hq
          simp [std] at h h' ⊢
          by_cases e : i = 0
          · subst e; simp at h' ⊢; simp [h']
          · obtain rfl : i = 1 := by omega
            have := h3 0 (by omega)
            simp [this]
        · have hadd : A.add .i64 i 1 = i + 1 := by subst hA; simp only [std]; exact w64 (by omega)
          have hlt : i < 2 := by subst hA; simpa [std] using h
          have hz : g i.toNat = 0 := by subst hA; simpa [std] using h'
          refine ⟨⟨i + 1, by omega, by omega, fun j hj => ?_⟩, [], ?_, ?_⟩
          · rcases Nat.lt_or_ge j i.toNat with hl | hl
            · exact h3 j hl
            · obtain rfl : j = i.toNat := by omega
              exact hz
          · simp [h48, leSt, leT, le2, le1, leM, renOk, noDup, hadd]
            exact ⟨1, _, ⟨rfl, rfl⟩, rfl, fun _ _ => rfl⟩
          · show (2 - (i + 1)).toNat < (2 - i).toNat
            omega
    · subst hA hq
      simp [std] at h ⊢
      have := h3 0 (by omega)
      have := h3 1 (by omega)
      simp [*]
def okB (b : UInt8) : Bool := decide (32 ≤ b.toNat) && decide (b.toNat ≤ 126)
def right0 (s : Int) (r : List UInt8) : Bool := decide (s ≤ 999999) && decide (r.length = 12) && r.all okB
def h12 (A : Ar) (s : Int) (r : List UInt8) (i : Int) : St := { next := 15, tmps := [.any, .ptr 0 0, .bool false, .any, .any, .any, .any, .any, .any, .any, .any, .any, .any, .any, .any, .int .i64 (A.slen r), .int .i64 i, .any, .any, .any, .any, .any, .any, .any, .any, .any, .any, .any, .any, .any, .any, .any], mem := [(0, .box 27 [.int .u32 s, .str r])] }
theorem good12 (s : Int) (r : List UInt8) : GoodP Try.prog 12 [.agg [.int .u32 s, .str r]] (.bool (right0 s r)) := by
  refine fn_sound' keyTys_ok none0_ok key_mixed Try.func12 fun A q hA hq => ?_
  cbv
  repeat (refine ⟨?_, ?_⟩; focus (subst hA; simp [std]; done))
  refine ⟨?_, ?_⟩
  · intro h
    cbv
    subst hA hq
    simp [std] at h ⊢
    simp [right0]
    intro h1 h2
    rcases h with h | h
    · omega
    · omega
  · intro h
    cbv
    have hl : r.length = 12 ∧ s ≤ 999999 := by subst hA; simp [std] at h; omega
    refine ⟨⟨{i : Int // 0 ≤ i ∧ i ≤ 12 ∧ ∀ j : Nat, j < i.toNat → okB (r[j]?.getD 0) = true}, fun i => h12 A s r i.1, fun i => (12 - i.1).toNat⟩, ⟨⟨0, by omega, by omega, fun j h => by simp at h⟩, [], ?_⟩, ?_⟩
    · simp [h12, leSt, leT, le2, le1, leM, renOk, noDup, renOf, leB, look, leL]
    · rintro ⟨i, h1, h2, h3⟩
      cbv
      have hsl : A.slen r = 12 := by subst hA; simp [std, hl.1]
      refine ⟨fun h' => ?_, fun h' => ?_⟩ <;> cbv
      · have hi : i < 12 := by rw [hsl] at h'; subst hA; simpa [std] using h'
        have hg : A.sget r i = ((r[i.toNat]?.getD 0).toNat : Int) := by subst hA; rfl
        repeat (refine ⟨?_, ?_⟩; focus (subst hA; first | (simp [std]; done) | (simp [std]; omega)))
        refine ⟨fun h'' => ?_, fun h'' => ?_⟩ <;> cbv
        · subst hA hq
          simp [std] at h'' ⊢
          simp [right0]
          intro _ _
          refine ⟨r[i.toNat]?.getD 0, ?_, ?_⟩
          · rw [List.getElem?_eq_getElem (by omega)]; simp
          · simp [okB]; omega
        · have hadd : A.add .i64 i 1 = i + 1 := by subst hA; simp only [std]; exact w64 (by omega)
          refine ⟨⟨i + 1, by omega, by omega, fun j hj => ?_⟩, [], ?_, ?_⟩
          · rcases Nat.lt_or_ge j i.toNat with hl' | hl'
            · exact h3 j hl'
            · obtain rfl : j = i.toNat := by omega
              subst hA
              simp [std] at h''
              simp [okB]; omega
          · simp [h12, leSt, leT, le2, le1, leM, renOk, noDup, renOf, leB, look, leL, hadd]
          · show (12 - (i + 1)).toNat < (12 - i).toNat
            omega
      · have hi : 12 ≤ i := by rw [hsl] at h'; subst hA; simpa [std] using h'
        subst hq
        simp only [right0, hl.1, hl.2, decide_true, Bool.and_self, Bool.true_and, SV.bool.injEq]
        symm
        rw [List.all_eq_true]
        intro b hb
        obtain ⟨j, hj, rfl⟩ := List.mem_iff_getElem.1 hb
        have := h3 j (by omega)
        rwa [List.getElem?_eq_getElem hj] at this
def shard1 (s : Int) (r : List UInt8) (m : Int) : Int := if right0 s r = true ∧ m = 1 then 0 else -1
def g2 (mix : Int → Int → Int) (rt : Int → List UInt8 → Bool) : Pu := fun f args => match f, args with
  | 51, [.int .u32 h, .int .u8 b] => some (none, .int .u32 (mix h b))
  | 12, [.agg [.int .u32 s, .str r]] => some (none, .bool (rt s r))
  | _, _ => none
theorem g2_ok : PuOk Try.prog (g2 mixK right0) := by
  intro f args p r h hp
  unfold g2 at h
  split at h <;> cases h
  · exact ⟨⟨_, Try.func51, rfl, by decide⟩, good51 _ _⟩
  · exact ⟨⟨_, Try.func12, rfl, by decide⟩, good12 _ _⟩
def h16a (A : Ar) (s : Int) (r : List UInt8) (x u : Int) : St := { next := 15, tmps := [.any, .int .i64 1, .ptr 0 0, .any, .int .i64 0, .int .u32 x, .int .u32 u, .any, .any, .any, .any, .any, .any, .any, .any, .any, .any, .any, .any, .any, .any, .any, .any, .any, .any, .any, .any, .any, .any, .any, .any, .any, .any, .any, .any, .any, .any, .any, .any, .any, .any, .any, .any, .any, .any, .any, .any, .any, .any, .any], mem := [(0, .box 27 [.int .u32 s, .str r])] }
def h16b (A : Ar) (s : Int) (r : List UInt8) (x i : Int) : St := { next := 15, tmps := [.any, .int .i64 1, .ptr 0 0, .any, .int .i64 0, .int .u32 x, .any, .any, .any, .any, .any, .any, .any, .any, .any, .any, .any, .any, .any, .any, .any, .any, .any, .any, .any, .any, .any, .any, .any, .any, .any, .any, .any, .any, .int .i64 (A.slen r), .int .i64 i, .any, .any, .any, .any, .any, .any, .any, .any, .any, .any, .any, .any, .any, .any], mem := [(0, .box 27 [.int .u32 s, .str r])] }
theorem good16 (s : Int) (r : List UInt8) (m : Int) (hm : m ≤ 1) : GoodP Try.prog 16 [.agg [.int .u32 s, .str r], .int .i64 m] (.int .i64 (shard1 s r m)) := by
  refine fn_sound' keyTys_ok g2_ok key_mixed Try.func16 fun A q hA hq => ?_
  obtain ⟨rt, hrt⟩ : ∃ f, f = right0 := ⟨_, rfl⟩
  rw [← hrt]
  generalize mixK = mix
  cbv
  repeat (refine ⟨?_, ?_⟩; focus (subst hA; simp [std]; done))
  refine ⟨?_, ?_⟩
  · intro h
    cbv
    subst hA hq hrt
    simp [std] at h ⊢
    simp [shard1]
    intro h1
    simp [h1] at h
    omega
  · intro h
    cbv
    have hh : right0 s r = true ∧ m = 1 := by
      subst hA hrt
      simp [std] at h
      exact ⟨by simpa using h.1.1, by omega⟩
    obtain ⟨hr, rfl⟩ := hh
    have hlen : r.length = 12 := by simp [right0] at hr; exact hr.1.2
    refine ⟨⟨{p : Int × Int // 0 ≤ p.2 ∧ p.2 ≤ 100000}, fun p => h16a A s r p.1.1 p.1.2, fun p => p.1.2.toNat⟩, ⟨⟨(2166136261, 100000), by decide⟩, [], ?_⟩, ?_⟩
    · simp [h16a, leSt, leT, le2, le1, leM, renOk, noDup, renOf, leB, look, leL]
    · rintro ⟨⟨x, u⟩, h1, h2⟩
      simp only at h1 h2
      cbv
      refine ⟨fun h' => ?_, fun h' => ?_⟩ <;> cbv
      · have hu : 0 < u := by subst hA; simpa [std] using h'
        repeat (refine ⟨?_, ?_⟩; focus (subst hA; first | (simp [std]; done) | (simp [std]; omega)))
        have hq10 : A.quo .u32 u 10 = u / 10 := by
          subst hA
          simp only [std]
          rw [Int.tdiv_eq_ediv_of_nonneg h1, IntKind.wrap_u32]
          omega
        refine ⟨⟨(mix x (A.conv .u8 (A.add .u32 48 (A.rem (A.quo .u32 s u) 10))), u / 10), ?_, ?_⟩, [], ?_, ?_⟩
        · show 0 ≤ u / 10
          omega
        · show u / 10 ≤ 100000
          omega
        · simp [h16a, leSt, leT, le2, le1, leM, renOk, noDup, renOf, leB, look, leL, hq10]
        · show (u / 10).toNat < u.toNat
          omega
      · refine ⟨⟨{p : Int × Int // 0 ≤ p.2 ∧ p.2 ≤ 12}, fun p => h16b A s r p.1.1 p.1.2, fun p => (12 - p.1.2).toNat⟩, ⟨⟨(x, 0), ⟨by simp, by simp⟩⟩, [], ?_⟩, ?_⟩
        · simp [h16b, leSt, leT, le2, le1, leM, renOk, noDup, renOf, leB, look, leL]
        · rintro ⟨⟨x, i⟩, h1, h2⟩
          simp only at h1 h2
          have hsl : A.slen r = 12 := by subst hA; simp [std, hlen]
          cbv
          refine ⟨fun h' => ?_, fun h' => ?_⟩ <;> cbv
          · have hi : i < 12 := by rw [hsl] at h'; subst hA; simpa [std] using h'
            repeat (refine ⟨?_, ?_⟩; focus (subst hA; first | (simp [std]; done) | (simp [std]; omega)))
            have hadd : A.add .i64 i 1 = i + 1 := by subst hA; simp only [std]; exact w64 (by omega)
            refine ⟨⟨(mix x (A.sget r i), i + 1), ?_, ?_⟩, [], ?_, ?_⟩
            · show 0 ≤ i + 1
              omega
            · show i + 1 ≤ 12
              omega
            · simp [h16b, leSt, leT, le2, le1, leM, renOk, noDup, renOf, leB, look, leL, hadd]
            · show (12 - (i + 1)).toNat < (12 - i).toNat
              omega
          · subst hA hq
            simp [std, shard1, hr, IntKind.wrap_u32, w64]
end Go.Vc
