/- slices.Insert of one element into a row of the call's own (holds). -/
import Derived.Test.YtakcggldilbilaaDoorVdI1
import Derived.Test.YtakcggldilbilaaDoorVdH3
import GoSem.Core.Float
import Ieee.Arith
set_option linter.unusedVariables false
set_option linter.unusedSimpArgs false
set_option maxRecDepth 100000
set_option maxHeartbeats 4000000
namespace Go.Proofs
open Go.RowKit Go.Lib Go.Vd
theorem insH_mid (w : World) (g0 n cap k : Nat) (cur : Array Value) (a : Addr) (c : Nat) (news : List Value) (hk : k < n) (hroom : n + 1 ≤ cap) (hcap : cap ≤ 9223372036854775807)
    (hg : isC w g0 cur 91 4) (hcs : cur.size = cap * 4) (hone : ∀ v ∈ cur.toList.take (n * 4), v.oneCell' = true) (hnl : news.length = 4) (hnc : ∀ j v, news[j]? = some v → w.cell? (a.add j) = some v) (hn1 : ∀ v ∈ news, v.oneCell' = true) (hne : a.block ≠ g0)
    (hov : ∀ lb cb, (callFunc 198 #[.slice (some a) 1 c, .slice (some ⟨g0, (k + 1) * 4, none⟩) lb cb]).run Tryd.prog w = .ok (.value (.bool false)) w) :
    Calls Tryd.prog 187 #[.slice (some ⟨g0, 0, none⟩) n cap, .int .i64 k, .slice (some a) 1 c] w fun e w' =>
      e = .returned (.slice (some ⟨g0, 0, none⟩) (n + 1) cap) ∧ ∃ cur2, isC w' g0 cur2 91 4 ∧ cur2.size = cur.size ∧ cur2.toList.take ((n + 1) * 4) = (cur.toList.take (n * 4)).take (k * 4) ++ news ++ (cur.toList.take (n * 4)).drop (k * 4) ∧ w.grownBy w' (some g0) := by
  obtain ⟨ii, dd, zz, hi, hd, hs, _⟩ := ty91_ok
  have his : ii.size = 4 := hs
  obtain ⟨cs1, hcs1⟩ : ∃ cs1, cs1 = (cur.toList.take (n * 4)).drop (k * 4) := ⟨_, rfl⟩
  have hl1 : cs1.length = (n - k) * 4 := by rw [hcs1, List.length_drop, List.length_take, Array.length_toList]; omega
  have hm1 : Nat.min (n + 1 - k) (n - k) = n - k := by simp only [Nat.min_def]; split <;> omega
  have hm2 : Nat.min 1 (n + 1 - k) = 1 := by simp only [Nat.min_def]; split <;> omega
  obtain ⟨cur1, hcur1⟩ : ∃ cur1, cur1 = (cur.toList.take ((k + 1) * 4) ++ cs1 ++ cur.toList.drop ((k + 1) * 4 + cs1.length)).toArray := ⟨_, rfl⟩
  have hz1 : cur1.size = cur.size := by
    rw [hcur1]
    simp only [List.size_toArray, List.length_append, List.length_take, List.length_drop, Array.length_toList]
    omega
  have hgd : isC w.drew g0 cur 91 4 := hg
  have hcp1 : ∀ ty dc sc, (Builtin.copy_ #[86, 86] ty #[.slice (some ⟨g0, (k + 1) * 4, none⟩) (n - k) dc, .slice (some ⟨g0, k * 4, none⟩) (n + 1 - k) sc]).run Tryd.prog w.drew = .ok (goInt (n - k : Nat)) (w.drew.setRow g0 cur1) := fun ty dc sc => by
    have h := run_copy_k (P := Tryd.prog) w.drew 86 86 ty 91 g0 ((k + 1) * 4) (n - k) dc 4 ⟨g0, k * 4, none⟩ (n + 1 - k) sc cur 91 cs1 Tryd.underlying86 hi his hgd (by rw [hm1]; exact hl1)
      (fun j v hj => by
        rw [Addr.add_lit, hgd.cell, ← Array.getElem?_toList]
        rw [hcs1, List.getElem?_drop, List.getElem?_take] at hj
        split at hj
        · exact hj
        · cases hj) (by omega) (fun v hv => hone v (List.mem_of_mem_drop (hcs1 ▸ hv)))
    rw [hm1, ← hcur1] at h
    exact h
  obtain ⟨W1, hW1⟩ : ∃ W1, W1 = w.drew.setRow g0 cur1 := ⟨_, rfl⟩
  have hg1 : isC W1 g0 cur1 91 4 := by rw [hW1]; exact hgd.set hz1
  have hoth : ∀ b, b ≠ g0 → W1.heap[b]? = w.heap[b]? := fun b hb => by
    rw [hW1]
    simp only [World.setRow, Array.getElem?_modify]
    rw [if_neg (fun e => hb e.symm)]
    rfl
  have hcella : ∀ j, W1.cell? (a.add j) = w.cell? (a.add j) := fun j => by
    have hb : (a.add j).block = a.block := block_add a j
    unfold World.cell?
    rw [hb, hoth _ hne]
  obtain ⟨cur2, hcur2⟩ : ∃ cur2, cur2 = (cur1.toList.take (k * 4) ++ news ++ cur1.toList.drop (k * 4 + news.length)).toArray := ⟨_, rfl⟩
  have hz2 : cur2.size = cur1.size := by
    rw [hcur2]
    simp only [List.size_toArray, List.length_append, List.length_take, List.length_drop, Array.length_toList]
    omega
  have hcp2 : ∀ ty dc, (Builtin.copy_ #[86, 86] ty #[.slice (some ⟨g0, k * 4, none⟩) (n + 1 - k) dc, .slice (some a) 1 c]).run Tryd.prog W1 = .ok (goInt (1 : Nat)) (W1.setRow g0 cur2) := fun ty dc => by
    have h := run_copy_k (P := Tryd.prog) W1 86 86 ty 91 g0 (k * 4) (n + 1 - k) dc 4 a 1 c cur1 91 news Tryd.underlying86 hi his hg1 (by rw [hm2]; omega)
      (fun j v hj => by rw [hcella]; exact hnc j v hj) (by omega) hn1
    rw [hm2, ← hcur2] at h
    exact h
  rw [← hW1] at hcp1
  have hfin : cur2.toList.take ((n + 1) * 4) = (cur.toList.take (n * 4)).take (k * 4) ++ news ++ (cur.toList.take (n * 4)).drop (k * 4) := by
    rw [hcur2, hcur1, hcs1, hnl, Nat.add_mul, Nat.add_mul, Nat.one_mul]
    simp only [List.toList_toArray]
    exact list_ins cur.toList news (k * 4) (n * 4) 4 (by omega) (by rw [Array.length_toList]; omega) hnl
  have hgrow : w.grownBy (W1.setRow g0 cur2) (some g0) := by
    refine ⟨?_, ?_, ?_, ?_, fun b hb hne2 => ?_⟩
    · rw [hW1]; rfl
    · rw [hW1]; rfl
    · rw [hW1]; rfl
    · rw [hW1]; simp [World.setRow]
    · simp only [World.setRow, Array.getElem?_modify]
      rw [if_neg (fun e => hne2 (by rw [e])), hoth b (fun e => hne2 (by rw [e]))]
  have hw1 : IntKind.i64.wrap ((k : Int) + 1) = (k : Int) + 1 := by rw [IntKind.wrap_i64]; omega
  have hb1 : (0 : Int) ≤ (k : Int) + 1 := by omega
  have hin : k ≤ n := by omega
  have htn : ((k : Int) + 1).toNat = k + 1 := by omega
  have hb2 : ¬ (cap = k + 1) := by omega
  have hb3 : (k : Int) ≤ (n : Int) + 1 := by omega
  have hb4 : ¬ (cap = k) := by omega
  clear hW1 hcur2 hcur1 hcs1
  go_enter Tryd.func187, Tryd.ntmps187
  go_wp2_with (simp only [hov])
  go_region_law (refine step_copyR rfl _ _ 86 86 rfl _ _ (by simp [Act.eval, Act.put]) (by simp [Act.eval, Act.put]) (hcp1 _ _ _) ?_)
  go_wp2_with (at_builtin; refine wpList_copyR _ rfl _ _ 86 86 rfl _ _ rfl rfl (hcp2 _ _) ?_)
  go_ret
  exact ⟨rfl, cur2, hg1.set hz2, hz2.trans hz1, hfin, hgrow⟩
theorem insH_grow (w : World) (g0 n k : Nat) (cur : Array Value) (a : Addr) (c : Nat) (news : List Value) (hk : k < n) (hn0 : n ≤ 1000000)
    (hg : isC w g0 cur 91 4) (hcs : cur.size = n * 4) (hone : ∀ v ∈ cur.toList.take (n * 4), v.oneCell' = true) (hnl : news.length = 4) (hnc : ∀ j v, news[j]? = some v → w.cell? (a.add j) = some v) (hn1 : ∀ v ∈ news, v.oneCell' = true) (hab : a.block < w.heap.size) :
    Calls Tryd.prog 187 #[.slice (some ⟨g0, 0, none⟩) n n, .int .i64 k, .slice (some a) 1 c] w fun e w' =>
      ∃ G cur2, e = .returned (.slice (some ⟨w.heap.size, 0, none⟩) (n + 1) G) ∧ n + 1 ≤ G ∧ G ≤ maxLen ∧ isC w' w.heap.size cur2 91 4 ∧ cur2.size = G * 4 ∧ cur2.toList.take ((n + 1) * 4) = (cur.toList.take (n * 4)).take (k * 4) ++ news ++ (cur.toList.take (n * 4)).drop (k * 4) ∧ w.grownBy w' none := by
  obtain ⟨ii, dd, zz, hi, hd, hs, _, _, _, hz0, _, _, hzs, _⟩ := ty91_ok
  have his : ii.size = 4 := hs
  have hib : ii.bytes ≤ 1000 := by
    have := hi.symm.trans (show Tryd.prog.info? 91 = some _ from rfl)
    simp only [Option.some.injEq] at this
    rw [this]
    decide
  rw [his] at hzs
  obtain ⟨xs, hxs⟩ : ∃ xs, xs = cur.toList.take (n * 4) := ⟨_, rfl⟩
  have hxl : xs.length = n * 4 := by rw [hxs, List.length_take, Array.length_toList]; omega
  have hcell : ∀ j v, xs[j]? = some v → w.cell? ⟨g0, j, none⟩ = some v := fun j v hj => by
    rw [hg.cell, ← Array.getElem?_toList]
    rw [hxs, List.getElem?_take] at hj
    split at hj
    · exact hj
    · cases hj
  have hg0 : g0 < w.heap.size := hg.lt
  rw [← hxs] at hone ⊢
  obtain ⟨G, hG⟩ : ∃ G, G = grownCap w (n + 1) n 91 := ⟨_, rfl⟩
  have hGn : n + 1 ≤ G := by rw [hG]; exact grownCap_ge w _ _ _
  have hGm : G ≤ maxLen := by rw [hG]; exact grownCap_le_maxLen w (n + 1) n 91 (by simp only [maxLen]; omega)
  have hG63 : G ≤ 9223372036854775807 := hGm
  have hold : (Builtin.firstCells ii.size k (.slice (some ⟨g0, 0, none⟩) k n)).run Tryd.prog w.drew = .ok (xs.take (k * 4)).toArray w.drew := by
    rw [his]
    exact run_firstCells_some w.drew 4 k ⟨g0, 0, none⟩ k n (xs.take (k * 4)) (by rw [List.length_take]; omega) (fun j v hj => by
      rw [Addr.add_lit, Nat.zero_add]
      rw [List.getElem?_take] at hj
      split at hj
      · exact hcell j v hj
      · cases hj)
  have hik : k + (n + 1 - k) = n + 1 := by omega
  have hkk : (n : Int) + 1 - (k : Int) = ((n + 1 - k : Nat) : Int) := by omega
  obtain ⟨ROW, hROW⟩ : ∃ ROW : Array Value, ROW = (xs.take (k * 4)).toArray ++ Builtin.zeroCells zz.cells (n + 1 - k) ++ Builtin.zeroCells zz.cells (G - (n + 1)) := ⟨_, rfl⟩
  have hrz : ∀ ty, (Builtin.append_ #[86, 3] ty #[.slice (some ⟨g0, 0, none⟩) k n, .int .i64 ((n : Int) + 1 - (k : Int))]).run Tryd.prog w =
      .ok (.slice (some ⟨w.heap.size, 0, none⟩) (n + 1) G) ((w.alloc (.cells ROW 91)).drew) := fun ty => by
    have h := Lib.run_append_grow_zeros w 86 3 ty 91 ii zz .i64 .i64 Tryd.underlying86 Tryd.underlying3 hi hz0 (some ⟨g0, 0, none⟩) k n (xs.take (k * 4)) hold (n + 1 - k) (by omega) (by omega) (by omega) (by omega)
      (Nat.le_trans (Nat.mul_le_mul (show n + 1 - k ≤ 1000001 by omega) hib) (by decide)) (by rw [hik]; exact growslice_fits (by omega) (Nat.le_trans (Nat.mul_le_mul (show n + 1 ≤ 1000001 by omega) hib) (by decide)))
    rw [hik, ← hG, ← hROW] at h
    rw [hkk]
    exact h
  have hRs : ROW.size = G * 4 := by
    rw [hROW]
    simp only [Array.size_append, List.size_toArray, List.length_take, size_zeroCells, hzs, hxl]
    omega
  obtain ⟨Z, hRZ⟩ : ∃ Z, ROW.toList = xs.take (k * 4) ++ Z := ⟨(Builtin.zeroCells zz.cells (n + 1 - k) ++ Builtin.zeroCells zz.cells (G - (n + 1))).toList, by rw [hROW]; simp⟩
  have hg1 : isC ((w.alloc (.cells ROW 91)).drew) w.heap.size ROW 91 4 := .of (heap_alloc_new w _)
  obtain ⟨row1, hrow1⟩ : ∃ row1, row1 = (ROW.toList.take (k * 4) ++ news ++ ROW.toList.drop (k * 4 + news.length)).toArray := ⟨_, rfl⟩
  have hz1 : row1.size = ROW.size := by
    rw [hrow1]
    simp only [List.size_toArray, List.length_append, List.length_take, List.length_drop, Array.length_toList]
    omega
  have hmA : Nat.min 1 (n + 1 - k) = 1 := by simp only [Nat.min_def]; split <;> omega
  have hcpA : ∀ ty dc, (Builtin.copy_ #[86, 86] ty #[.slice (some ⟨w.heap.size, k * 4, none⟩) (n + 1 - k) dc, .slice (some a) 1 c]).run Tryd.prog ((w.alloc (.cells ROW 91)).drew) = .ok (goInt (1 : Nat)) (((w.alloc (.cells ROW 91)).drew).setRow w.heap.size row1) := fun ty dc => by
    have h := run_copy_k (P := Tryd.prog) ((w.alloc (.cells ROW 91)).drew) 86 86 ty 91 w.heap.size (k * 4) (n + 1 - k) dc 4 a 1 c ROW 91 news Tryd.underlying86 hi his hg1 (by rw [hmA]; omega)
      (fun j v hj => by
        have h1 := hnc j v hj
        have hb : (a.add j).block = a.block := block_add a j
        unfold World.cell? at h1 ⊢
        rw [hb] at h1 ⊢
        rw [show ((w.alloc (.cells ROW 91)).drew).heap[a.block]? = w.heap[a.block]? from heap_alloc_old w _ hab]
        exact h1) (by omega) hn1
    rw [hmA, ← hrow1] at h
    exact h
  obtain ⟨W2, hW2⟩ : ∃ W2, W2 = ((w.alloc (.cells ROW 91)).drew).setRow w.heap.size row1 := ⟨_, rfl⟩
  have hg2 : isC W2.drew w.heap.size row1 91 4 := by
    have : isC W2 w.heap.size row1 91 4 := by rw [hW2]; exact hg1.set hz1
    exact this
  have hoth : ∀ b, b < w.heap.size → W2.heap[b]? = w.heap[b]? := fun b hb => by
    rw [hW2]
    simp only [World.setRow, Array.getElem?_modify]
    rw [if_neg (by omega)]
    exact heap_alloc_old w _ hb
  obtain ⟨row2, hrow2⟩ : ∃ row2, row2 = (row1.toList.take ((k + 1) * 4) ++ xs.drop (k * 4) ++ row1.toList.drop ((k + 1) * 4 + (xs.drop (k * 4)).length)).toArray := ⟨_, rfl⟩
  have hdl : (xs.drop (k * 4)).length = (n - k) * 4 := by rw [List.length_drop, hxl]; omega
  have hz2 : row2.size = row1.size := by
    rw [hrow2]
    simp only [List.size_toArray, List.length_append, List.length_take, List.length_drop, Array.length_toList]
    omega
  have hmB : Nat.min (n - k) (n - k) = n - k := Nat.min_self _
  have hcpB : ∀ ty dc sc, (Builtin.copy_ #[86, 86] ty #[.slice (some ⟨w.heap.size, (k + 1) * 4, none⟩) (n - k) dc, .slice (some ⟨g0, k * 4, none⟩) (n - k) sc]).run Tryd.prog W2.drew = .ok (goInt (n - k : Nat)) (W2.drew.setRow w.heap.size row2) := fun ty dc sc => by
    have h := run_copy_k (P := Tryd.prog) W2.drew 86 86 ty 91 w.heap.size ((k + 1) * 4) (n - k) dc 4 ⟨g0, k * 4, none⟩ (n - k) sc row1 91 (xs.drop (k * 4)) Tryd.underlying86 hi his hg2 (by rw [hmB]; exact hdl)
      (fun j v hj => by
        rw [List.getElem?_drop] at hj
        have h1 := hcell _ v hj
        rw [Addr.add_lit]
        unfold World.cell? at h1 ⊢
        rw [show W2.drew.heap[g0]? = w.heap[g0]? from hoth g0 hg0]
        exact h1) (by omega) (fun v hv => hone v (List.mem_of_mem_drop hv))
    rw [hmB, ← hrow2] at h
    exact h
  rw [← hW2] at hcpA
  have hfin : row2.toList.take ((n + 1) * 4) = xs.take (k * 4) ++ news ++ xs.drop (k * 4) := by
    rw [hrow2, hrow1, Nat.add_mul, Nat.add_mul, Nat.one_mul]
    simp only [List.toList_toArray]
    exact list_ins2 ROW.toList xs news (xs.drop (k * 4)) Z (k * 4) (n * 4) 4 (by omega) hxl hRZ (by rw [Array.length_toList]; omega) hnl rfl
  have hgrow : w.grownBy (W2.drew.setRow w.heap.size row2) none := by
    refine ⟨?_, ?_, ?_, ?_, fun b hb _ => ?_⟩
    · rw [hW2]; rfl
    · rw [hW2]; rfl
    · rw [hW2]; rfl
    · rw [hW2]
      show w.heap.size ≤ (Array.modify _ _ _).size
      rw [Array.size_modify]
      show w.heap.size ≤ (Array.modify _ _ _).size
      rw [Array.size_modify]
      exact Nat.le_of_lt hg1.lt
    · simp only [World.setRow, Array.getElem?_modify]
      rw [if_neg (by omega)]
      exact hoth b hb
  have hw1 : IntKind.i64.wrap ((k : Int) + 1) = (k : Int) + 1 := by rw [IntKind.wrap_i64]; omega
  have hb1 : (0 : Int) ≤ (k : Int) + 1 := by omega
  have hin : k ≤ n := by omega
  have htn : ((k : Int) + 1).toNat = k + 1 := by omega
  have hb2 : ¬ (G = k + 1) := by omega
  have hb3 : (k : Int) ≤ (n : Int) := by omega
  have hb4 : ¬ (n = k) := by omega
  have hb5 : ¬ (G = k) := by omega
  clear hkk hik hold hW2 hROW hG hrow1 hrow2 hRZ hdl hxl hcell
  go_enter Tryd.func187, Tryd.ntmps187
  go_wp2_with (first
    | (at_builtin; refine wpList_appR _ rfl _ _ 86 3 rfl _ _ rfl rfl (hrz _) ?_)
    | (at_builtin; refine wpList_copyR _ rfl _ _ 86 86 rfl _ _ rfl rfl (hcpA _ _) ?_))
  go_region_law (refine step_copyR rfl _ _ 86 86 rfl _ _ (by simp [Act.eval, Act.put]) (by simp [Act.eval, Act.put]) (hcpB _ _ _) ?_)
  go_wp2
  go_ret
  exact ⟨G, row2, rfl, hGn, hGm, hg2.set hz2, hz2.trans (hz1.trans hRs), hfin, hgrow⟩
theorem insH_end (w : World) (a0 : Option Addr) (n cap : Nat) (hnc : n ≤ cap) (hn0 : n ≤ 1000000) (a : Addr) (c : Nat) (v' : Value) (w' : World)
    (hrun : ∀ ty, (Builtin.append_ #[86, 86] ty #[.slice a0 n cap, .slice (some a) 1 c]).run Tryd.prog w = .ok v' w') :
    Calls Tryd.prog 187 #[.slice a0 n cap, .int .i64 n, .slice (some a) 1 c] w fun e W => e = .returned v' ∧ W = w' := by
  go_enter Tryd.func187, Tryd.ntmps187
  cases a0 with
  | none =>
    go_wp2_with (at_builtin; refine wpList_appR _ rfl _ _ 86 86 rfl _ _ rfl rfl (hrun _) ?_)
    all_goals (go_ret; exact ⟨rfl, rfl⟩)
  | some b =>
    obtain ⟨bb, bo, bs⟩ := b
    go_wp2_with (at_builtin; refine wpList_appR _ rfl _ _ 86 86 rfl _ _ rfl rfl (hrun _) ?_)
    all_goals (go_ret; exact ⟨rfl, rfl⟩)
/-- The row with one element more. -/
theorem insH_ok (gl : Nat → SV) (n : Nat) (g : Nat → Nat → SV) (i : Int) (h : Nat → Nat → SV) (hi0 : 0 ≤ i ∧ i ≤ (n : Int)) (hn0 : n ≤ 1000000) :
    GoodW Tryd.prog gl 187 91 4 n g [.int .i64 i, .slc 1 4 h] (n + 1) (insS g i.toNat h) := by
  intro w ρ rw N v vs xs hrw hgl hv hown hone hrel hargs
  obtain ⟨ii, dd, zz, hi, hd, hs, _, _, _, hz0, _, _, hzs, _⟩ := ty91_ok
  have his : ii.size = 4 := hs
  have hib : ii.bytes ≤ 1000 := by
    have := hi.symm.trans (show Tryd.prog.info? 91 = some _ from rfl)
    simp only [Option.some.injEq] at this
    rw [this]
    decide
  rw [his] at hzs
  match vs, hargs with
  | [v1, v2], ⟨r1, r2, _⟩ =>
    obtain ⟨k, hk⟩ : ∃ k : Nat, i = (k : Int) := ⟨i.toNat, by omega⟩
    subst hk
    have hkn : k ≤ n := by omega
    rw [Int.toNat_natCast]
    have e1 := r1.eq_int
    subst e1
    cases r2 with
    | slc ad _ c _ _ g2 hc1 hcc hca hcr =>
      obtain ⟨a, rfl, hsp⟩ := hca (by omega)
      obtain ⟨news, hnews⟩ : ∃ news, news = (List.range 4).map (g2 0) := ⟨_, rfl⟩
      have hnl : news.length = 4 := by rw [hnews]; simp
      have hnj : ∀ j u, news[j]? = some u → j < 4 ∧ u = g2 0 j := fun j u hj => by
        rw [hnews, getElem?_range_map] at hj
        split at hj
        · rename_i hlt; exact ⟨hlt, (Option.some.inj hj).symm⟩
        · cases hj
      have hnc : ∀ j u, news[j]? = some u → w.cell? (a.add j) = some u := fun j u hj => by
        obtain ⟨hlt, rfl⟩ := hnj j u hj
        obtain ⟨a', ea, q, _, _⟩ := hcc 0 j (by omega) hlt
        cases ea
        rw [Nat.zero_mul, Nat.zero_add] at q
        exact q
      have hn1 : ∀ u ∈ news, u.oneCell' = true := fun u hu => by
        obtain ⟨j, hj⟩ := List.mem_iff_getElem?.1 hu
        obtain ⟨hlt, rfl⟩ := hnj j u hj
        obtain ⟨a', ea, _, q, _⟩ := hcc 0 j (by omega) hlt
        exact q
      have hnr : ¬ rw a.block := by
        obtain ⟨a', ea, _, _, q⟩ := hcc 0 0 (by omega) (by omega)
        cases ea
        exact q
      have hnR : ∀ j u, news[j]? = some u → RelC w rw u (h 0 j) := fun j u hj => by
        obtain ⟨hlt, rfl⟩ := hnj j u hj
        exact hcr 0 j (by omega) hlt
      have hcell0 : w.cell? (a.add 0) = some (g2 0 0) := hnc 0 _ (by rw [hnews]; rfl)
      obtain ⟨ca0, ta, ma, hA, hA0⟩ : ∃ ca0 ta ma, w.heap[a.block]? = some (.cells ca0 ta ma) ∧ 0 < ca0.size := by
        have hb : (a.add 0).block = a.block := block_add a 0
        unfold World.cell? at hcell0
        rw [hb] at hcell0
        split at hcell0
        · rename_i c0 e0 m0 heq
          refine ⟨c0, e0, m0, heq, ?_⟩
          split at hcell0
          · cases hcell0
          · have := (Array.getElem?_eq_some_iff.1 hcell0).1
            omega
        · cases hcell0
      have hab : a.block < w.heap.size := (Array.getElem?_eq_some_iff.1 hA).1
      have fin : ∀ (w' : World) (v' : Value) (xs' : List Value), ownsR w' 91 4 v' (n + 1) xs' → xs' = xs.take (k * 4) ++ news ++ xs.drop (k * 4) → w.grownBy w' (blkNo v) → (∀ b, blkNo v' = some b → blkNo v = some b ∨ w.heap.size ≤ b) →
          ∃ v'' xs'', Ending.returned v' = .returned v'' ∧ ownsR w' 91 4 v'' (n + 1) xs'' ∧ (∀ u ∈ xs'', one u) ∧ w.grownBy w' (blkNo v) ∧ (∀ b, blkNo v'' = some b → blkNo v = some b ∨ w.heap.size ≤ b) ∧
            ∀ (rw' : Nat → Prop), (∀ b, b < w.heap.size → rw' b → rw b) → ∀ i j u, i < n + 1 → j < 4 → xs''[i * 4 + j]? = some u → RelC w' rw' u (insS g k h i j) := by
        intro w' v' xs' q1 q2 q3 q4
        have hkeep : Keep rw w w' := ⟨q3.os, q3.tape, q3.output, q3.size, fun b hb hr => q3.block b hb fun e => hr (hv b e.symm)⟩
        refine ⟨v', xs', rfl, q1, fun u hu => ?_, q3, q4, fun rw' hrw' i j u hi' hj hu => (ins_rel (s := 4) (by omega) hkn hown.1 hnl hrel hnR hi' hj (q2 ▸ hu)).mono hkeep hrw'⟩
        rw [q2] at hu
        rcases List.mem_append.1 hu with hu | hu
        · rcases List.mem_append.1 hu with hu | hu
          · exact hone u (List.mem_of_mem_take hu)
          · exact hn1 u hu
        · exact hone u (List.mem_of_mem_drop hu)
      rcases Nat.lt_or_ge k n with hlt | hge
      · have hown2 := hown
        rcases hown.2 with ⟨_, h0⟩ | ⟨g0, cap, cur, rfl, hc0, hC, hnc0, hcm, hcs, htk⟩
        · omega
        · have hne : a.block ≠ g0 := fun e => hnr (e ▸ hv g0 (blkNo_slice hc0))
          rcases Nat.lt_or_ge cap (n + 1) with hf | hroom
          · obtain rfl : cap = n := by omega
            refine (insH_grow w g0 cap k cur a c news hlt hn0 hC hcs (by rw [htk]; exact hone) hnl hnc hn1 hab).mono fun en w' hq => ?_
            obtain ⟨G, cur2, rfl, p1, p2, p3, p4, p5, p6⟩ := hq
            rw [htk] at p5
            refine fin w' _ _ ⟨?_, .inr ⟨w.heap.size, G, cur2, rfl, by omega, p3, p1, p2, p4, rfl⟩⟩ p5 ⟨p6.os, p6.tape, p6.output, p6.size, fun b hb _ => p6.block b hb (by simp)⟩ fun b hb => .inr ?_
            · rw [List.length_take, Array.length_toList, p4]
              have := Nat.mul_le_mul_right 4 p1
              omega
            · rw [blkNo_slice (by omega)] at hb
              simp only [Option.some.injEq] at hb
              omega
          · obtain ⟨mk, hh, hmk⟩ := hC
            have hplain : w.heap[g0]? = some (.cells cur 91 (0, 0)) := by
              rcases hmk with rfl | ⟨_, h1⟩
              · exact hh
              · exact absurd h1 (by decide)
            refine (insH_mid w g0 n cap k cur a c news hlt hroom hcm ⟨mk, hh, hmk⟩ hcs (by rw [htk]; exact hone) hnl hnc hn1 hne (fun lb cb => by
              rw [run_callFunc_extern Tryd.func198 (by kernel_rfl) (by kernel_rfl) (by kernel_rfl) (e := Extern.SlicesOverlaps.overlaps #[86, 86] #[4]) (by kernel_rfl),
                apart_plain w 86 4 91 Tryd.underlying86 4 (fun w => by simp [sizeOf, typeInfo, hi, his]) a ⟨g0, (k + 1) * 4, none⟩ 1 c lb cb hne hA hA0 hplain]
              rfl)).mono fun en w' hq => ?_
            obtain ⟨rfl, cur2, p1, p2, p3, p4⟩ := hq
            rw [htk] at p3
            refine fin w' _ _ ⟨?_, .inr ⟨g0, cap, cur2, rfl, hc0, p1, hroom, hcm, p2.trans hcs, rfl⟩⟩ p3 (by rw [blkNo_slice hc0]; exact p4) fun b hb => .inl ?_
            · rw [List.length_take, Array.length_toList, p2, hcs]
              have := Nat.mul_le_mul_right 4 hroom
              omega
            · rw [blkNo_slice hc0] at hb ⊢
              exact hb
      · obtain rfl : k = n := by omega
        obtain ⟨a0, cap, rfl, hcap⟩ : ∃ a0 cap, v = .slice a0 k cap ∧ k ≤ cap := by
          rcases hown.2 with ⟨⟨a0, rfl⟩, h0⟩ | ⟨g0, cap, cur, rfl, hc0, hC, hnc0, _⟩
          · exact ⟨a0, 0, by rw [h0], by omega⟩
          · exact ⟨_, cap, rfl, hnc0⟩
        have hall : ∀ ty, ∃ v' w', (Builtin.append_ #[86, 86] ty #[.slice a0 k cap, .slice (some a) 1 c]).run Tryd.prog w = .ok v' w' ∧ ownsR w' 91 4 v' (k + 1) (xs ++ news) ∧ w.grownBy w' (blkNo (.slice a0 k cap)) ∧
            (∀ b, blkNo v' = some b → blkNo (.slice a0 k cap) = some b ∨ w.heap.size ≤ b) := fun ty =>
          run_append_src (P := Tryd.prog) (ty := ty) Tryd.underlying86 hi hz0 his rfl hzs (by omega) hown (m := 1) (cp := c) (by omega) (fun _ => ⟨a, rfl, hnc⟩) hn1 (by omega) (Nat.le_trans (Nat.mul_le_mul (show k + 1 ≤ 1000001 by omega) hib) (by decide))
        obtain ⟨v', w', h1, h2, h3, h4⟩ := hall 0
        have hty : ∀ ty, (Builtin.append_ #[86, 86] ty #[.slice a0 k cap, .slice (some a) 1 c]).run Tryd.prog w = .ok v' w' := fun ty => h1
        refine (insH_end w a0 k cap hcap hn0 a c v' w' hty).mono fun en W hq => ?_
        obtain ⟨rfl, rfl⟩ := hq
        have hxl := hown.1
        exact fin W v' (xs ++ news) h2 (by rw [List.take_of_length_le (by omega), List.drop_of_length_le (by omega), List.append_nil]) h3 h4
end Go.Proofs

set_option linter.unusedVariables false
set_option linter.unusedSimpArgs false
set_option maxRecDepth 100000
set_option maxHeartbeats 8000000
namespace Go.Vd
open Go.Proofs
/-- slices.Insert of one entry. -/
noncomputable def insY : Ar → Xt := fun A => { wl := [187], meth := fun _ _ => none, wt := fun f e k n g rest => bif Nat.beq f 187 && (Nat.beq e 91 && Nat.beq k 4) then (match rest with
  | [.int .i64 i, .slc 1 4 h] => some (some (A.tp fun _ => (0 ≤ i ∧ i ≤ (n : Int)) ∧ n ≤ 1000000), A.nadd n 1, A.cat (A.toNat i) g (A.cat 1 h (A.shift g (A.toNat i))))
  | _ => none) else none }
theorem insS_cat (g : Nat → Nat → SV) (k : Nat) (h : Nat → Nat → SV) : insS g k h = catS k g (catS 1 h (shiftS g k)) := by
  funext a b
  unfold insS catS shiftS
  by_cases h1 : a < k
  · rw [if_pos h1, if_pos h1]
  · rw [if_neg h1, if_neg h1]
    by_cases h2 : a = k
    · rw [if_pos h2, if_pos (by omega), show a - k = 0 by omega]
    · rw [if_neg h2, if_neg (by omega), show k + (a - k - 1) = a - 1 by omega]
theorem insY_ok : XtOk Tryd.prog gl0 (insY std) := by
  refine ⟨(fun t name f h => by cases h), ?_⟩
  intro f e k n g rest p n' g' hw hp
  unfold insY at hw
  simp only at hw
  cases hb : (Nat.beq f 187 && (Nat.beq e 91 && Nat.beq k 4)) <;> rw [hb] at hw <;> simp only [cond_true, cond_false, reduceCtorEq] at hw
  simp only [Bool.and_eq_true] at hb
  obtain rfl := Nat.eq_of_beq_eq_true hb.1
  obtain rfl := Nat.eq_of_beq_eq_true hb.2.1
  obtain rfl := Nat.eq_of_beq_eq_true hb.2.2
  split at hw
  · simp only [Option.some.injEq, Prod.mk.injEq] at hw
    obtain ⟨rfl, rfl, rfl⟩ := hw
    rename_i i h
    have h2 := insH_ok gl0 n g i h hp.1 hp.2
    rw [insS_cat] at h2
    exact ⟨⟨_, Tryd.func187, rfl, by decide⟩, h2⟩
  · cases hw
def rCloneH (A : Ar) (L : Unit → List Hld) : SV := .frs 91 4 (A.tn fun _ => (L ()).length) (rowF eH H0 A L)
attribute [local irreducible] vc
theorem good_CloneH (L : List Hld) (hL : L.length ≤ 1000000) : GoodP Tryd.prog gl0 161 [rowS eH H0 4 std fun _ => L] (rCloneH std fun _ => L) := by
  refine fn_sound' (T := seatT) (G := noC) (X := noX) seatT_ok noC_ok noX_ok noI_ok mixed Tryd.func161 (.fresh 91 4) (fun A => [rowS eH H0 4 A fun _ => L]) (fun A => rCloneH A fun _ => L) fun A hA => ?_
  cbv
  repeat' (first | with_reducible exact True.intro | with_reducible exact dr_ok hA (by kernel_rfl) | with_reducible refine And.intro ?_ ?_ | (intro hc; cbv))
  all_goals (subst hA; simp [std_add, std_sub, std_mul, std_quo, std_rem, std_band, std_bor, std_bxor, std_shl, std_shr, std_eq, std_ne, std_lt, std_le, std_conv, std_not, std_beq, std_bne, std_ite, std_want, std_and2, std_sadd, std_seq, std_sne, std_slt, std_sle, std_sgt, std_sge, std_slen, std_sget, std_scut, std_ofNat, std_toNat, std_nsub, std_nadd, std_lenOf, std_nz, std_nneg, std_inb, std_upto, std_slt63, std_grow, std_imp, std_impN, std_tr, std_tb, std_ti, std_ts, std_tn, std_tp, std_nmin, std_makes, std_room, std_zeros, std_nilq, std_notq, std_eqi, std_eqn, std_eqb, std_eqs, std_eqv, std_cat, std_lst, std_rset, std_rcopy, std_shift, std_eqr, std_strOf, std_bytesOf, std_isB, std_zOf, zOf_int, std_isI, isI_int, std_getL, std_nmul, std_sOf, sOf_str, std_isS, isS_str, std_fadd, std_fsub, std_fav, std_fsv, std_feq, std_fne, std_flt, std_fle, std_fgt, std_fge, std_fOf, std_fTo, std_fTv] at *)
  all_goals first
    | omega
    | (have hq := hc (by assumption); rw [hq]; rfl)
    | (have hq := hc (by assumption); rw [hq]; intro i j hi; exact absurd hi (by simp))
    | (apply eqr_of; (exact (Reps.nil.cat (Reps.lit L)).congr rfl (List.nil_append L)); (first | (simp; done) | omega | rfl); rfl)
    | trace_state
noncomputable def c_CloneH : Ct := fun A args => match args with
  | [.slc n 4 f] => some (some (A.tp fun _ => isRow eH H0 4 n f ∧ n ≤ 1000000), rCloneH A fun _ => lstOf eH H0 4 n f)
  | _ => none
noncomputable def gy5 : Ar → Pu := addC 161 c_CloneH (gy4)
theorem gy5_ok : PuOk Tryd.prog gl0 (gy5 std) := by
  refine addC_ok (gy4_ok) ⟨_, Tryd.func161, rfl, by decide⟩ ?_
  · intro args p r h hp
    unfold c_CloneH at h
    split at h <;> cases h
    exact good_sv (good_CloneH _ (by rw [lstOf_length hp.1]; exact hp.2)) ⟨hp.1.sv, trivial⟩
def sL (A : Ar) (L : Unit → List Hld) : SV := .agg [rowS eH H0 4 A L]
def fL (A : Ar) (L : Unit → List Hld) : SV := .agg [rCloneH A L]
theorem good_fLedger (L : List Hld) (hL : L.length ≤ 1000000) : GoodP Tryd.prog gl0 118 [sL std fun _ => L] (fL std fun _ => L) := by
  refine fn_sound' (T := seatT) (G := gy5) (X := noX) seatT_ok gy5_ok noX_ok noI_ok mixed Tryd.func118 (.fresh 91 4) (fun A => [sL A fun _ => L]) (fun A => fL A fun _ => L) fun A hA => ?_
  cbv
  repeat' (first | with_reducible exact True.intro | with_reducible exact dr_ok hA (by kernel_rfl) | with_reducible refine And.intro ?_ ?_ | (intro hc; cbv))
  all_goals (subst hA; simp only [std_add, std_sub, std_mul, std_quo, std_rem, std_band, std_bor, std_bxor, std_shl, std_shr, std_eq, std_ne, std_lt, std_le, std_conv, std_not, std_beq, std_bne, std_ite, std_want, std_and2, std_sadd, std_seq, std_sne, std_slt, std_sle, std_sgt, std_sge, std_slen, std_sget, std_scut, std_ofNat, std_toNat, std_nsub, std_nadd, std_lenOf, std_nz, std_nneg, std_inb, std_upto, std_slt63, std_grow, std_imp, std_impN, std_tr, std_tb, std_ti, std_ts, std_tn, std_tp, std_nmin, std_makes, std_room, std_zeros, std_nilq, std_notq, std_eqi, std_eqn, std_eqb, std_eqs, std_eqv, std_cat, std_lst, std_rset, std_rcopy, std_shift, std_eqr, std_strOf, std_bytesOf, std_isB, std_zOf, zOf_int, std_isI, isI_int, std_getL, std_nmul, std_sOf, sOf_str, std_isS, isS_str, std_fadd, std_fsub, std_fav, std_fsv, std_feq, std_fne, std_flt, std_fle, std_fgt, std_fge, std_fOf, std_fTo, std_fTv, lstOf_V, isRow_V] at *)
  all_goals first
    | exact ⟨trivial, hL⟩
    | exact ⟨isRow_V L, hL⟩
    | (exact (Reps.lit _).eqr)
    | trace_state
noncomputable def c_fLedger : Ct := fun A args => match args with
  | [.agg [.slc n 4 f]] => some (some (A.tp fun _ => isRow eH H0 4 n f ∧ n ≤ 1000000), fL A fun _ => lstOf eH H0 4 n f)
  | _ => none
def agC (am st a : Int) : List UInt8 := if st ≠ 1 then [48, 53] else if am ≠ a then [57, 52] else [48, 48]
theorem good_lAgain (s am st k a t : Int) (r p q c : List UInt8) : GoodP Tryd.prog gl0 163 [.agg [.int .u32 s, .str r, .int .u64 am, .int .i64 st], .agg [.int .i64 k, .str p, .int .u64 a, .int .u32 t, .str q, .str c]] (.str (std.ts fun _ => agC am st a)) := by
  refine fn_sound' (T := seatT) (G := noC) (X := noX) seatT_ok noC_ok noX_ok noI_ok mixed Tryd.func163 (.one) (fun A => [.agg [.int .u32 s, .str r, .int .u64 am, .int .i64 st], .agg [.int .i64 k, .str p, .int .u64 a, .int .u32 t, .str q, .str c]]) (fun A => .str (A.ts fun _ => agC am st a)) fun A hA => ?_
  cbv
  repeat' (first | with_reducible exact True.intro | with_reducible exact dr_ok hA (by kernel_rfl) | with_reducible refine And.intro ?_ ?_ | (intro hc; cbv))
  all_goals (subst hA; simp [std_add, std_sub, std_mul, std_quo, std_rem, std_band, std_bor, std_bxor, std_shl, std_shr, std_eq, std_ne, std_lt, std_le, std_conv, std_not, std_beq, std_bne, std_ite, std_want, std_and2, std_sadd, std_seq, std_sne, std_slt, std_sle, std_sgt, std_sge, std_slen, std_sget, std_scut, std_ofNat, std_toNat, std_nsub, std_nadd, std_lenOf, std_nz, std_nneg, std_inb, std_upto, std_slt63, std_grow, std_imp, std_impN, std_tr, std_tb, std_ti, std_ts, std_tn, std_tp, std_nmin, std_makes, std_room, std_zeros, std_nilq, std_notq, std_eqi, std_eqn, std_eqb, std_eqs, std_eqv, std_cat, std_lst, std_rset, std_rcopy, std_shift, std_eqr, std_strOf, std_bytesOf, std_isB, std_zOf, zOf_int, std_isI, isI_int, std_getL, std_nmul, std_sOf, sOf_str, std_isS, isS_str, std_fadd, std_fsub, std_fav, std_fsv, std_feq, std_fne, std_flt, std_fle, std_fgt, std_fge, std_fOf, std_fTo, std_fTv] at *)
  all_goals (simp [agC, *])
theorem good_lReply (kk k a t : Int) (p q c e : List UInt8) : GoodP Tryd.prog gl0 120 [.int .i64 kk, .agg [.int .i64 k, .str p, .int .u64 a, .int .u32 t, .str q, .str c], .str e] (.agg [.int .i64 kk, .str [], .int .u64 0, .int .u32 t, .str q, .str e]) := by
  refine fn_sound' (T := seatT) (G := noC) (X := noX) seatT_ok noC_ok noX_ok noI_ok mixed Tryd.func120 (.one) (fun A => [.int .i64 kk, .agg [.int .i64 k, .str p, .int .u64 a, .int .u32 t, .str q, .str c], .str e]) (fun A => .agg [.int .i64 kk, .str [], .int .u64 0, .int .u32 t, .str q, .str e]) fun A hA => ?_
  cbv
  repeat' (first | with_reducible exact True.intro | with_reducible exact dr_ok hA (by kernel_rfl) | with_reducible refine And.intro ?_ ?_ | (intro hc; cbv))
  all_goals (subst hA; simp [std_add, std_sub, std_mul, std_quo, std_rem, std_band, std_bor, std_bxor, std_shl, std_shr, std_eq, std_ne, std_lt, std_le, std_conv, std_not, std_beq, std_bne, std_ite, std_want, std_and2, std_sadd, std_seq, std_sne, std_slt, std_sle, std_sgt, std_sge, std_slen, std_sget, std_scut, std_ofNat, std_toNat, std_nsub, std_nadd, std_lenOf, std_nz, std_nneg, std_inb, std_upto, std_slt63, std_grow, std_imp, std_impN, std_tr, std_tb, std_ti, std_ts, std_tn, std_tp, std_nmin, std_makes, std_room, std_zeros, std_nilq, std_notq, std_eqi, std_eqn, std_eqb, std_eqs, std_eqv, std_cat, std_lst, std_rset, std_rcopy, std_shift, std_eqr, std_strOf, std_bytesOf, std_isB, std_zOf, zOf_int, std_isI, isI_int, std_getL, std_nmul, std_sOf, sOf_str, std_isS, isS_str, std_fadd, std_fsub, std_fav, std_fsv, std_feq, std_fne, std_flt, std_fle, std_fgt, std_fge, std_fOf, std_fTo, std_fTv] at *)
noncomputable def c_lAgain : Ct := fun A args => match args with
  | [.agg [.int .u32 s, .str r, .int .u64 am, .int .i64 st], .agg [.int .i64 k, .str p, .int .u64 a, .int .u32 t, .str q, .str c]] => some (none, .str (A.ts fun _ => agC am st a))
  | _ => none
noncomputable def c_lReply : Ct := fun A args => match args with
  | [.int .i64 kk, .agg [.int .i64 k, .str p, .int .u64 a, .int .u32 t, .str q, .str c], .str e] => some (none, .agg [.int .i64 kk, .str [], .int .u64 0, .int .u32 t, .str q, .str e])
  | _ => none
noncomputable def gy6 : Ar → Pu := addC 118 c_fLedger (addC 163 c_lAgain (addC 120 c_lReply (gy5)))
theorem gy6_ok : PuOk Tryd.prog gl0 (gy6 std) := by
  refine addC_ok (addC_ok (addC_ok (gy5_ok) ⟨_, Tryd.func120, rfl, by decide⟩ ?_) ⟨_, Tryd.func163, rfl, by decide⟩ ?_) ⟨_, Tryd.func118, rfl, by decide⟩ ?_
  · intro args p r h hp
    unfold c_lReply at h
    split at h <;> cases h
    exact good_lReply _ _ _ _ _ _ _ _
  · intro args p r h hp
    unfold c_lAgain at h
    split at h <;> cases h
    exact good_lAgain _ _ _ _ _ _ _ _ _ _
  · intro args p r h hp
    unfold c_fLedger at h
    split at h <;> cases h
    exact good_sv (good_fLedger _ (by rw [lstOf_length hp.1]; exact hp.2)) ⟨⟨_, rfl, hp.1.sv, trivial⟩, trivial⟩
noncomputable def iY5 : Nat → Option Func := addI 119 Tryd.f119 (addI 121 Tryd.f121 (addI 164 Tryd.f164 noI))
theorem iY5_ok : InOk Tryd.prog iY5 := addI_ok (addI_ok (addI_ok noI_ok Tryd.func164 (by kernel_rfl)) Tryd.func121 (by kernel_rfl)) Tryd.func119 (by kernel_rfl)
end Go.Vd

set_option linter.unusedVariables false
set_option linter.unusedSimpArgs false
set_option maxRecDepth 100000
set_option maxHeartbeats 8000000
namespace Go.Vd
open Go.Proofs
def insH (L : List Hld) (e : Hld) : List Hld := L.take (pos L e.s e.r) ++ [e] ++ L.drop (pos L e.s e.r)
def opnH (L : List Hld) (e : Hld) : List Hld := if 256 ≤ L.length then L else insH L e
def opnC (L : List Hld) (c : List UInt8) : List UInt8 := if 256 ≤ L.length then [57, 54] else c
def gvH (L : List Hld) (i : Nat) : List Hld := L.set i ⟨(L.getD i H0).s, (L.getD i H0).r, (L.getD i H0).am, 3⟩
def doL (L : List Hld) (k a s : Int) (r : List UInt8) (ok : Bool) : List Hld :=
  if k = 1 then (if has L s r = true then L else opnH L ⟨s, r, a, if ok = true then 1 else 2⟩)
  else if k = 5 ∨ k = 6 then (if has L s r = true then gvH L (pos L s r) else opnH L ⟨s, r, a, 3⟩) else L
def doC (L : List Hld) (k a s : Int) (r : List UInt8) (ok : Bool) : List UInt8 :=
  if k = 1 then (if has L s r = true then agC (L.getD (pos L s r) H0).am (L.getD (pos L s r) H0).st a else opnC L (if ok = true then [48, 48] else [48, 53]))
  else if k = 5 ∨ k = 6 then (if has L s r = true then [48, 48] else opnC L [48, 48]) else []
def lgOk (L : List Hld) (k a s : Int) (p r c : List UInt8) : Bool := leR L && dR k a s p r c
def lgL (L : List Hld) (k a s : Int) (p r c : List UInt8) (ok : Bool) : List Hld := if lgOk L k a s p r c = true then doL L k a s r ok else L
def lgE (L : List Hld) (k a s : Int) (p r c : List UInt8) : Int := if lgOk L k a s p r c = true then (if k = 1 ∨ k = 5 ∨ k = 6 then 0 else 3) else 1
def anS (A : Ar) (L : Unit → List Hld) (k a s : Int) (p r c : List UInt8) (ok : Bool) : SV :=
  .agg [.int .i64 (A.ti fun _ => if lgE (L ()) k a s p r c = 0 then (if k = 1 then 2 else 7) else 0), .str [], .int .u64 0, .int .u32 (A.ti fun _ => if lgE (L ()) k a s p r c = 0 then s else 0), .str (A.ts fun _ => if lgE (L ()) k a s p r c = 0 then r else []), .str (A.ts fun _ => if lgE (L ()) k a s p r c = 0 then doC (L ()) k a s r ok else [])]
end Go.Vd

set_option linter.unusedVariables false
set_option linter.unusedSimpArgs false
set_option maxRecDepth 100000
set_option maxHeartbeats 8000000
namespace Go.Vd
theorem pos_lt : ∀ {L : List Hld} {s : Int} {r : List UInt8} {t : Nat}, t < pos L s r → ltK s r (L.getD t H0) = true
  | [], s, r, t, h => by simp [pos] at h
  | e :: L, s, r, t, h => by
    unfold pos at h
    rw [List.takeWhile_cons] at h
    by_cases h1 : ltK s r e = true
    · rw [if_pos h1, List.length_cons] at h
      cases t with
      | zero => exact h1
      | succ t => exact pos_lt (L := L) (by unfold pos; omega)
    · rw [if_neg h1] at h; simp at h
theorem pos_ge : ∀ {L : List Hld} {s : Int} {r : List UInt8}, pos L s r < L.length → ltK s r (L.getD (pos L s r) H0) = false
  | [], s, r, h => by simp at h
  | e :: L, s, r, h => by
    unfold pos at h ⊢
    rw [List.takeWhile_cons] at h ⊢
    by_cases h1 : ltK s r e = true
    · rw [if_pos h1, List.length_cons] at h ⊢
      exact pos_ge (L := L) (by unfold pos; rw [List.length_cons] at h; omega)
    · rw [if_neg h1]
      simpa using h1
theorem pos_far {L : List Hld} (hasc : ascP L) {s : Int} {r : List UInt8} {t : Nat} (h1 : pos L s r ≤ t) (h2 : t < L.length) : ltK s r (L.getD t H0) = false := by
  cases hq : ltK s r (L.getD t H0)
  · rfl
  · have := ltK_mono hasc h1 h2 hq
    rw [pos_ge (by omega)] at this
    cases this
theorem has_pos {L : List Hld} (hasc : ascP L) {s : Int} {r : List UInt8} (h : has L s r = true) : pos L s r < L.length ∧ kE s r (L.getD (pos L s r) H0) = true :=
  (has_at hasc (fun _ ht => pos_lt ht) (fun _ h1 h2 => pos_far hasc h1 h2)).1 h
theorem ordK_gt {s t : Int} {r q : List UInt8} (h : ¬ordK s r t q < 0) (hn : ¬(s = t ∧ r = q)) : ordK t q s r < 0 := by
  rw [ordK_lt_iff] at *
  rcases Int.lt_trichotomy s t with h1 | h1 | h1
  · exact absurd (.inl h1) h
  · subst h1
    rcases triS r q with ⟨h2, _⟩ | ⟨h2, _⟩ | ⟨h2, _⟩
    · exact absurd (.inr ⟨rfl, h2⟩) h
    · exact absurd ⟨rfl, h2⟩ hn
    · exact .inr ⟨rfl, h2⟩
  · exact .inl h1
theorem getD_mem {L : List Hld} {i : Nat} (h : i < L.length) : L.getD i H0 ∈ L := by
  rw [List.getD_eq_getElem?_getD, List.getElem?_eq_getElem h]; exact List.getElem_mem h
theorem getD_get {L : List Hld} {i : Nat} (h : i < L.length) : L[i] = L.getD i H0 := by simp [List.getD_eq_getElem?_getD, h]
theorem asc_pw {L : List Hld} : ascP L ↔ (∀ x ∈ L, hR x = true) ∧ L.Pairwise fun x y => ordH x y < 0 := by
  constructor
  · intro h
    refine ⟨fun x hx => ?_, ?_⟩
    · obtain ⟨i, hi, rfl⟩ := List.getElem_of_mem hx
      rw [getD_get hi]
      exact (h i hi).1
    · rw [List.pairwise_iff_getElem]
      intro i j hi hj hij
      rw [getD_get hi, getD_get hj]
      exact asc_mono h hij hj
  · rintro ⟨h1, h2⟩ j hj
    refine ⟨h1 _ (getD_mem hj), fun h0 => ?_⟩
    rw [List.pairwise_iff_getElem] at h2
    have := h2 (j - 1) j (by omega) hj (by omega)
    rw [getD_get (by omega), getD_get hj] at this
    exact this
structure Sp (A B : List Hld) (s : Int) (r : List UInt8) : Prop where
  ra : ∀ a ∈ A, hR a = true
  rb : ∀ b ∈ B, hR b = true
  pa : A.Pairwise fun x y => ordH x y < 0
  pb : B.Pairwise fun x y => ordH x y < 0
  la : ∀ a ∈ A, ordK a.s a.r s r < 0
  lb : ∀ b ∈ B, ordK s r b.s b.r < 0
theorem Sp.asc {A B : List Hld} {s : Int} {r : List UInt8} (h : Sp A B s r) {e : Hld} (he : hR e = true) (hs : e.s = s) (hr : e.r = r) : ascP (A ++ e :: B) := by
  rw [asc_pw]
  refine ⟨fun x hx => ?_, ?_⟩
  · rcases List.mem_append.1 hx with hx | hx
    · exact h.ra x hx
    · rcases List.mem_cons.1 hx with rfl | hx
      · exact he
      · exact h.rb x hx
  · rw [List.pairwise_append]
    have hcr : ∀ b ∈ B, ordH e b < 0 := fun b hb => by unfold ordH; rw [hs, hr]; exact h.lb b hb
    refine ⟨h.pa, List.pairwise_cons.2 ⟨hcr, h.pb⟩, fun a ha b hb => ?_⟩
    have h1 : ordH a e < 0 := by unfold ordH; rw [hs, hr]; exact h.la a ha
    rcases List.mem_cons.1 hb with rfl | hb
    · exact h1
    · exact ordK_trans h1 (hcr b hb)
theorem Sp.kA {A B : List Hld} {s : Int} {r : List UInt8} (h : Sp A B s r) {a : Hld} (ha : a ∈ A) : kE s r a = false := by
  cases hk : kE s r a
  · rfl
  · have := ltK_self hk
    unfold ltK at this
    have h2 := h.la a ha
    rw [decide_eq_true h2] at this
    cases this
theorem Sp.kB {A B : List Hld} {s : Int} {r : List UInt8} (h : Sp A B s r) {b : Hld} (hb : b ∈ B) : kE s r b = false := by
  cases hk : kE s r b
  · rfl
  · have h2 := h.lb b hb
    obtain ⟨h3, h4⟩ := kE_iff.1 hk
    rw [h3, h4, ordK_eq, if_pos ⟨rfl, rfl⟩] at h2
    exact absurd h2 (by decide)
theorem Sp.pos {A B : List Hld} {s : Int} {r : List UInt8} (h : Sp A B s r) {e : Hld} (hs : e.s = s) (hr : e.r = r) : pos (A ++ e :: B) s r = A.length := by
  unfold Vd.pos
  rw [List.takeWhile_append_of_pos (fun a ha => by unfold ltK; exact decide_eq_true (h.la a ha)), List.takeWhile_cons, if_neg (by rw [ltK_self (kE_iff.2 ⟨hs, hr⟩)]; simp), List.append_nil]
theorem find_none {A : List Hld} {s : Int} {r : List UInt8} (h : ∀ a ∈ A, kE s r a = false) : A.find? (kE s r) = none := by
  rw [List.find?_eq_none]
  intro x hx
  rw [h x hx]
  simp
theorem Sp.fnd {A B : List Hld} {s : Int} {r : List UInt8} (h : Sp A B s r) {e : Hld} (hs : e.s = s) (hr : e.r = r) : fnd (A ++ e :: B) s r = e ∧ has (A ++ e :: B) s r = true := by
  have hk : kE s r e = true := kE_iff.2 ⟨hs, hr⟩
  constructor
  · unfold Vd.fnd
    rw [List.find?_append, find_none fun a ha => h.kA ha, List.find?_cons, hk]
    rfl
  · unfold has
    simp [hk]
theorem Sp.oth {A B : List Hld} {s s' : Int} {r r' : List UInt8} {e : Hld} (hn : ¬(e.s = s' ∧ e.r = r')) : Vd.fnd (A ++ e :: B) s' r' = Vd.fnd (A ++ B) s' r' ∧ has (A ++ e :: B) s' r' = has (A ++ B) s' r' := by
  have hk : kE s' r' e = false := kE_no hn
  constructor
  · unfold Vd.fnd
    rw [List.find?_append, List.find?_append, List.find?_cons, hk]
  · unfold has
    simp [hk]
theorem has_no {L : List Hld} {s : Int} {r : List UInt8} (h : has L s r = false) {x : Hld} (hx : x ∈ L) : kE s r x = false := by
  unfold has at h
  rw [List.any_eq_false] at h
  exact Bool.eq_false_iff.2 (h x hx)
theorem Sp.of {L : List Hld} {s : Int} {r : List UInt8} (hasc : ascP L) (hn : has L s r = false) : Sp (L.take (Vd.pos L s r)) (L.drop (Vd.pos L s r)) s r := by
  have h2 := asc_pw.1 hasc
  have hpl := pos_le L s r
  refine ⟨fun a ha => h2.1 a (List.mem_of_mem_take ha), fun b hb => h2.1 b (List.mem_of_mem_drop hb), h2.2.sublist (List.take_sublist _ _), h2.2.sublist (List.drop_sublist _ _), fun a ha => ?_, fun b hb => ?_⟩
  · obtain ⟨i, hi, rfl⟩ := List.getElem_of_mem ha
    rw [List.length_take] at hi
    rw [List.getElem_take, getD_get (by omega)]
    have := pos_lt (L := L) (s := s) (r := r) (t := i) (by omega)
    unfold ltK at this
    exact of_decide_eq_true this
  · have hm := List.mem_of_mem_drop hb
    have hk := has_no hn hm
    obtain ⟨i, hi, rfl⟩ := List.getElem_of_mem hb
    rw [List.length_drop] at hi
    rw [List.getElem_drop] at hk ⊢
    rw [getD_get (by omega)] at hk ⊢
    have := pos_far hasc (s := s) (r := r) (t := Vd.pos L s r + i) (by omega) (by omega)
    unfold ltK at this
    exact ordK_gt (of_decide_eq_false this) fun h => by rw [kE_iff.2 h] at hk; cases hk
/-- An entry in its place, and another one of its key. -/
theorem mid_spec {A B : List Hld} {e : Hld} (h : Sp A B e.s e.r) (he : hR e = true) (hl : A.length + B.length < 256) : leR (A ++ e :: B) = true ∧ has (A ++ e :: B) e.s e.r = true ∧ fnd (A ++ e :: B) e.s e.r = e ∧ pos (A ++ e :: B) e.s e.r = A.length := by
  refine ⟨leR_yes (by simp; omega) (h.asc he rfl rfl), (h.fnd rfl rfl).2, (h.fnd rfl rfl).1, h.pos rfl rfl⟩
theorem mid_getD (A B : List Hld) (e : Hld) : (A ++ e :: B).getD A.length H0 = e := by simp
theorem mid_set (A B : List Hld) (e f : Hld) : (A ++ e :: B).set A.length f = A ++ f :: B := by simp
theorem leR_asc {L : List Hld} (h : leR L = true) : ascB L = true ∧ L.length ≤ 256 := by
  simp only [leR, Bool.and_eq_true, decide_eq_true_eq] at h
  exact ⟨h.2, h.1⟩
/-- A key that is there: its hold, and what lies on both sides. -/
theorem Sp.at {L : List Hld} (hasc : ascP L) {s : Int} {r : List UInt8} (hh : has L s r = true) : ∃ A e B, L = A ++ e :: B ∧ Sp A B s r ∧ e.s = s ∧ e.r = r ∧ hR e = true ∧ A.length = Vd.pos L s r ∧ L.getD (Vd.pos L s r) H0 = e := by
  obtain ⟨hp, hk⟩ := has_pos hasc hh
  obtain ⟨h1, h2⟩ := kE_iff.1 hk
  have h3 := asc_pw.1 hasc
  have hL : L = L.take (Vd.pos L s r) ++ L.getD (Vd.pos L s r) H0 :: L.drop (Vd.pos L s r + 1) := by
    conv => lhs; rw [← List.take_append_drop (Vd.pos L s r) L]
    rw [List.drop_eq_getElem_cons hp, getD_get hp]
  refine ⟨L.take (Vd.pos L s r), L.getD (Vd.pos L s r) H0, L.drop (Vd.pos L s r + 1), hL, ⟨fun a ha => h3.1 a (List.mem_of_mem_take ha), fun b hb => h3.1 b (List.mem_of_mem_drop hb), h3.2.sublist (List.take_sublist _ _), h3.2.sublist (List.drop_sublist _ _), fun a ha => ?_, fun b hb => ?_⟩, h1, h2, h3.1 _ (getD_mem hp), by rw [List.length_take]; omega, rfl⟩
  · obtain ⟨i, hi, rfl⟩ := List.getElem_of_mem ha
    rw [List.length_take] at hi
    rw [List.getElem_take, getD_get (by omega)]
    have := asc_mono hasc (i := i) (j := Vd.pos L s r) (by omega) hp
    unfold ordH at this
    rw [h1, h2] at this
    exact this
  · obtain ⟨i, hi, rfl⟩ := List.getElem_of_mem hb
    rw [List.length_drop] at hi
    rw [List.getElem_drop, getD_get (by omega)]
    have := asc_mono hasc (i := Vd.pos L s r) (j := Vd.pos L s r + 1 + i) (by omega) (by omega)
    unfold ordH at this
    rw [h1, h2] at this
    exact this
theorem insH_mid {L : List Hld} (hr : leR L = true) {e : Hld} (he : hR e = true) (hn : has L e.s e.r = false) (hl : ¬256 ≤ L.length) :
    leR (insH L e) = true ∧ has (insH L e) e.s e.r = true ∧ fnd (insH L e) e.s e.r = e ∧ (insH L e).getD (pos (insH L e) e.s e.r) H0 = e ∧ (insH L e).length = L.length + 1 ∧ (∀ s r, ¬(e.s = s ∧ e.r = r) → fnd (insH L e) s r = fnd L s r ∧ has (insH L e) s r = has L s r) := by
  have hasc := (ascB_iff L).1 (leR_asc hr).1
  have hS := Sp.of hasc hn
  have hp := pos_le L e.s e.r
  have heq : insH L e = L.take (pos L e.s e.r) ++ e :: L.drop (pos L e.s e.r) := by unfold insH; rw [List.append_assoc]; rfl
  have hm := mid_spec hS he (by rw [List.length_take, List.length_drop]; omega)
  rw [heq]
  refine ⟨hm.1, hm.2.1, hm.2.2.1, by rw [hm.2.2.2, mid_getD], by simp; omega, fun s r hn => ?_⟩
  have := Sp.oth (A := L.take (pos L e.s e.r)) (B := L.drop (pos L e.s e.r)) (s := 0) (r := []) hn
  rw [List.take_append_drop] at this
  exact this
def gvn (e : Hld) : Hld := ⟨e.s, e.r, e.am, 3⟩
theorem gvn_R {e : Hld} (h : hR e = true) : hR (gvn e) = true := by
  simp only [hR, Bool.and_eq_true, decide_eq_true_eq] at h
  show (keyOk e.s e.r && (decide (e.am < 1000000000000) && (decide ((1 : Int) ≤ 3) && decide ((3 : Int) ≤ 3)))) = true
  rw [h.1, decide_eq_true h.2.1]
  rfl
theorem gvH_mid {L : List Hld} (hr : leR L = true) {s : Int} {r : List UInt8} (hh : has L s r = true) :
    leR (gvH L (pos L s r)) = true ∧ has (gvH L (pos L s r)) s r = true ∧ fnd (gvH L (pos L s r)) s r = gvn (fnd L s r) ∧ fnd L s r = L.getD (pos L s r) H0 ∧ pos (gvH L (pos L s r)) s r = pos L s r ∧ gvH (gvH L (pos L s r)) (pos L s r) = gvH L (pos L s r) ∧ (gvH L (pos L s r)).length = L.length ∧ (gvH L (pos L s r)).getD (pos L s r) H0 = gvn (fnd L s r) ∧
      (∀ s' r', ¬(s = s' ∧ r = r') → fnd (gvH L (pos L s r)) s' r' = fnd L s' r' ∧ has (gvH L (pos L s r)) s' r' = has L s' r') := by
  have hasc := (ascB_iff L).1 (leR_asc hr).1
  obtain ⟨A, e, B, hL, hS, h1, h2, h3, h4, h5⟩ := Sp.at hasc hh
  have hl := (leR_asc hr).2
  have hlen : A.length + B.length < 256 := by
    have := congrArg List.length hL
    simp at this
    omega
  have hg : gvH L (pos L s r) = A ++ gvn e :: B := by
    unfold gvH
    rw [h5, ← h4]
    conv => lhs; rw [hL]
    rw [mid_set]; rfl
  have hSe : Sp A B (gvn e).s (gvn e).r := by show Sp A B e.s e.r; rw [h1, h2]; exact hS
  have hm := mid_spec hSe (gvn_R h3) hlen
  have e1 : (gvn e).s = s := h1
  have e2 : (gvn e).r = r := h2
  rw [e1, e2] at hm
  have hf : fnd L s r = e := by rw [hL]; exact (hS.fnd h1 h2).1
  rw [hg, hf]
  refine ⟨hm.1, hm.2.1, hm.2.2.1, h5.symm, by rw [hm.2.2.2, h4], ?_, by rw [hL]; simp, by rw [← h4, mid_getD], fun s' r' hn => ?_⟩
  · unfold gvH
    rw [← h4, mid_getD, mid_set]
    rfl
  · have a1 := Sp.oth (A := A) (B := B) (e := gvn e) (s := 0) (r := []) (s' := s') (r' := r') (by rw [e1, e2]; exact hn)
    have a2 := Sp.oth (A := A) (B := B) (e := e) (s := 0) (r := []) (s' := s') (r' := r') (by rw [h1, h2]; exact hn)
    rw [← hL] at a2
    exact ⟨a1.1.trans a2.1.symm, a1.2.trans a2.2.symm⟩
end Go.Vd

set_option linter.unusedVariables false
set_option linter.unusedSimpArgs false
set_option maxRecDepth 100000
set_option maxHeartbeats 8000000
namespace Go.Vd
open Go.Proofs
theorem gv_reps {L : List Hld} {i : Nat} (hi : i < L.length) : Reps eH H0 4 L.length (rsetS (rowF eH H0 std fun _ => L) i 3 [SV.int .i64 3]) (gvH L i) := by
  refine ⟨by simp [gvH], fun i' j hi' hj => ?_⟩
  show Ceq (if i' = i ∧ 3 ≤ j ∧ j < 3 + 1 then getAt [SV.int .i64 3] (j - 3) else rowF eH H0 std (fun _ => L) i' j) (getAt (eH std fun _ => (gvH L i).getD i' H0) j)
  by_cases he : i' = i
  · subst he
    have hg : (gvH L i').getD i' H0 = ⟨(L.getD i' H0).s, (L.getD i' H0).r, (L.getD i' H0).am, 3⟩ := by
      unfold gvH
      simp [List.getD_eq_getElem?_getD, hi]
    rw [hg]
    rcases (show j = 0 ∨ j = 1 ∨ j = 2 ∨ j = 3 by omega) with rfl | rfl | rfl | rfl
    · rw [if_neg (by omega)]; exact .refl _
    · rw [if_neg (by omega)]; exact .refl _
    · rw [if_neg (by omega)]; exact .refl _
    · rw [if_pos ⟨rfl, by omega, by omega⟩]; exact .refl _
  · rw [if_neg (fun h => he h.1)]
    have hg : (gvH L i).getD i' H0 = L.getD i' H0 := by
      unfold gvH
      simp [List.getD_eq_getElem?_getD, List.getElem?_set, Ne.symm he]
    rw [hg]
    exact .refl _
theorem ins_reps (L : List Hld) (e : Hld) : Reps eH H0 4 (L.length + 1) (catS (pos L e.s e.r) (rowF eH H0 std fun _ => L) (catS 1 (lstS [[SV.int .u32 e.s, SV.str e.r, SV.int .u64 e.am, SV.int .i64 e.st]]) (shiftS (rowF eH H0 std fun _ => L) (pos L e.s e.r)))) (insH L e) := by
  have hle := pos_le L e.s e.r
  have h := (Reps.cut (enc := eH) (d := H0) (k := 4) L (pos L e.s e.r) hle).catE ((Reps.one (cell_eH e)).cat ((Reps.lit (enc := eH) (d := H0) (k := 4) L).shift' (pos L e.s e.r) hle)) rfl
  exact h.congr (by omega) (by unfold insH; simp)
section
variable {L : List Hld} {k a s : Int} {p r c : List UInt8} {ok : Bool}
theorem lg_bad (h : (bif !leR L then true else !dR k a s p r c) = true) : lgL L k a s p r c ok = L ∧ lgE L k a s p r c = 1 := by
  have h1 : lgOk L k a s p r c = false := by
    unfold lgOk
    cases h2 : leR L <;> cases h3 : dR k a s p r c <;> rw [h2, h3] at h <;> simp at h ⊢
  exact ⟨by unfold lgL; rw [h1]; rfl, by unfold lgE; rw [h1]; rfl⟩
theorem lg_ok (h : (bif !leR L then true else !dR k a s p r c) = false) : leR L = true ∧ lgOk L k a s p r c = true := by
  unfold lgOk
  cases h2 : leR L <;> cases h3 : dR k a s p r c <;> rw [h2, h3] at h <;> simp at h ⊢
theorem lg_asc (h : (bif !leR L then true else !dR k a s p r c) = false) : ascB L = true := by
  have := (lg_ok h).1
  simp only [leR, Bool.and_eq_true] at this
  exact this.2
theorem lg_pos (h : (bif !leR L then true else !dR k a s p r c) = false) (h2 : has L s r = true) : pos L s r < L.length := (has_pos ((ascB_iff L).1 (lg_asc h)) h2).1
theorem lg_3 (h : (bif !leR L then true else !dR k a s p r c) = false) (h1 : (k == 1) = false) (h5 : (k == 5) = false) (h6 : (k == 6) = false) : lgL L k a s p r c ok = L ∧ lgE L k a s p r c = 3 := by
  have ho := (lg_ok h).2
  simp at h1 h5 h6
  exact ⟨by unfold lgL; rw [if_pos ho]; unfold doL; rw [if_neg h1, if_neg (by omega)], by unfold lgE; rw [if_pos ho, if_neg (by omega)]⟩
theorem lg_1h (h : (bif !leR L then true else !dR k a s p r c) = false) (h1 : (k == 1) = true) (hh : has L s r = true) : k = 1 ∧ lgL L k a s p r c ok = L ∧ lgE L k a s p r c = 0 ∧ doC L k a s r ok = agC (L.getD (pos L s r) H0).am (L.getD (pos L s r) H0).st a := by
  have ho := (lg_ok h).2
  simp at h1
  exact ⟨h1, by unfold lgL; rw [if_pos ho]; unfold doL; rw [if_pos h1, if_pos hh], by unfold lgE; rw [if_pos ho, if_pos (.inl h1)], by unfold doC; rw [if_pos h1, if_pos hh]⟩
theorem lg_1n (h : (bif !leR L then true else !dR k a s p r c) = false) (h1 : (k == 1) = true) (hh : has L s r = false) : k = 1 ∧ lgL L k a s p r c ok = opnH L ⟨s, r, a, if ok = true then 1 else 2⟩ ∧ lgE L k a s p r c = 0 ∧ doC L k a s r ok = opnC L (if ok = true then [48, 48] else [48, 53]) := by
  have ho := (lg_ok h).2
  have hh' : ¬has L s r = true := by rw [hh]; simp
  simp at h1
  exact ⟨h1, by unfold lgL; rw [if_pos ho]; unfold doL; rw [if_pos h1, if_neg hh'], by unfold lgE; rw [if_pos ho, if_pos (.inl h1)], by unfold doC; rw [if_pos h1, if_neg hh']⟩
theorem lg_5h (h : (bif !leR L then true else !dR k a s p r c) = false) (h1 : (k == 1) = false) (h5 : (k == 5) = true ∨ (k == 6) = true) (hh : has L s r = true) : (¬k = 1) ∧ lgL L k a s p r c ok = gvH L (pos L s r) ∧ lgE L k a s p r c = 0 ∧ doC L k a s r ok = [48, 48] := by
  have ho := (lg_ok h).2
  simp at h1 h5
  exact ⟨h1, by unfold lgL; rw [if_pos ho]; unfold doL; rw [if_neg h1, if_pos h5, if_pos hh], by unfold lgE; rw [if_pos ho, if_pos (.inr h5)], by unfold doC; rw [if_neg h1, if_pos h5, if_pos hh]⟩
theorem lg_5n (h : (bif !leR L then true else !dR k a s p r c) = false) (h1 : (k == 1) = false) (h5 : (k == 5) = true ∨ (k == 6) = true) (hh : has L s r = false) : (¬k = 1) ∧ lgL L k a s p r c ok = opnH L ⟨s, r, a, 3⟩ ∧ lgE L k a s p r c = 0 ∧ doC L k a s r ok = opnC L [48, 48] := by
  have ho := (lg_ok h).2
  have hh' : ¬has L s r = true := by rw [hh]; simp
  simp at h1 h5
  exact ⟨h1, by unfold lgL; rw [if_pos ho]; unfold doL; rw [if_neg h1, if_pos h5, if_neg hh'], by unfold lgE; rw [if_pos ho, if_pos (.inr h5)], by unfold doC; rw [if_neg h1, if_pos h5, if_neg hh']⟩
theorem opn_full {e : Hld} {x : List UInt8} (h : decide ((256 : Int) ≤ ((L.length : Nat) : Int)) = true) : opnH L e = L ∧ opnC L x = [57, 54] := by
  have : 256 ≤ L.length := by have := of_decide_eq_true h; omega
  exact ⟨if_pos this, if_pos this⟩
theorem opn_room {e : Hld} {x : List UInt8} (h : decide ((256 : Int) ≤ ((L.length : Nat) : Int)) = false) : opnH L e = insH L e ∧ opnC L x = x := by
  have : ¬256 ≤ L.length := by have := of_decide_eq_false h; omega
  exact ⟨if_neg this, if_neg this⟩
theorem insH_len {e : Hld} : (insH L e).length = L.length + 1 := by
  have := pos_le L e.s e.r
  unfold insH
  simp
  omega
theorem gvH_len {i : Nat} : (gvH L i).length = L.length := by simp [gvH]
end
attribute [local irreducible] vc
theorem good_leDo (L : List Hld) (k a s : Int) (p r c : List UInt8) (ok : Bool) (hL : L.length ≤ 1000000) (hp : p.length ≤ 100000) (hr : r.length ≤ 1000000) (hc0 : c.length ≤ 1000000) : GoodP Tryd.prog gl0 61 [sL std fun _ => L, .agg [.int .i64 k, .str p, .int .u64 a, .int .u32 s, .str r, .str c], .bool ok] (.tup [sL std fun _ => lgL L k a s p r c ok, anS std (fun _ => L) k a s p r c ok, .int .i64 (std.ti fun _ => lgE L k a s p r c)]) := by
  refine fn_sound' (T := seatT) (G := gy6) (X := insY) seatT_ok gy6_ok insY_ok iY5_ok mixed Tryd.func61 (.none) (fun A => [sL A fun _ => L, .agg [.int .i64 k, .str p, .int .u64 a, .int .u32 s, .str r, .str c], .bool ok]) (fun A => .tup [sL A fun _ => lgL L k a s p r c ok, anS A (fun _ => L) k a s p r c ok, .int .i64 (A.ti fun _ => lgE L k a s p r c)]) fun A hA => ?_
  cbv
  repeat' (first | with_reducible exact True.intro | with_reducible exact dr_ok hA (by kernel_rfl) | with_reducible refine And.intro ?_ ?_ | (intro hc; cbv))
  all_goals (subst hA; simp only [std_add, std_sub, std_mul, std_quo, std_rem, std_band, std_bor, std_bxor, std_shl, std_shr, std_eq, std_ne, std_lt, std_le, std_conv, std_not, std_beq, std_bne, std_ite, std_want, std_and2, std_sadd, std_seq, std_sne, std_slt, std_sle, std_sgt, std_sge, std_slen, std_sget, std_scut, std_ofNat, std_toNat, std_nsub, std_nadd, std_lenOf, std_nz, std_nneg, std_inb, std_upto, std_slt63, std_grow, std_imp, std_impN, std_tr, std_tb, std_ti, std_ts, std_tn, std_tp, std_nmin, std_makes, std_room, std_zeros, std_nilq, std_notq, std_eqi, std_eqn, std_eqb, std_eqs, std_eqv, std_cat, std_lst, std_rset, std_rcopy, std_shift, std_eqr, std_strOf, std_bytesOf, std_isB, std_zOf, zOf_int, std_isI, isI_int, std_getL, std_nmul, std_sOf, sOf_str, std_isS, isS_str, std_fadd, std_fsub, std_fav, std_fsv, std_feq, std_fne, std_flt, std_fle, std_fgt, std_fge, std_fOf, std_fTo, std_fTv, lstOf_V, isRow_V] at *)
  all_goals first
    | exact ⟨trivial, hL⟩
    | exact id
    | (intro h; exact ⟨h, hp, hr, hc0⟩)
    | (intro h; rw [h]; rfl)
    | skip
  all_goals first
    | (have hb : (bif !leR L then true else !dR k a s p r c) = true := by assumption
       have hz := lg_bad (ok := ok) hb
       have e1 := hz.1
       have e2 := hz.2
       first | (rw [e1]; done) | (rw [e1]; exact (Reps.lit L).eqr) | (rw [e2]; done) | (rw [e2]; rfl))
    | skip
  all_goals
    have h0 : (bif !leR L then true else !dR k a s p r c) = false := by assumption
    have hpl := pos_le L s r
  all_goals first
    | exact ⟨trivial, hL, lg_asc h0⟩
    | (have q1 : (k == 5) = true := by assumption
       have q2 : (k == 5) = false := by assumption
       rw [q1] at q2
       cases q2)
    | exact ⟨⟨(show (0 : Int) ≤ ((pos L s r : Nat) : Int) by omega), (show ((pos L s r : Nat) : Int) ≤ ((L.length : Nat) : Int) by omega)⟩, hL⟩
    | (have hh : has L s r = true := by assumption
       have hp := lg_pos h0 hh
       exact ⟨(show (0 : Int) ≤ ((pos L s r : Nat) : Int) by omega), (show ((pos L s r : Nat) : Int) < ((L.length : Nat) : Int) by omega)⟩)
    | (have h1 : (k == 1) = false := by assumption
       have h5 : (k == 5) = false := by assumption
       have h6 : (k == 6) = false := by assumption
       have hz := lg_3 (ok := ok) h0 h1 h5 h6
       have e1 := hz.1
       have e2 := hz.2
       first | (rw [e1]; done) | (rw [e1]; exact (Reps.lit L).eqr) | (rw [e2]; done) | (rw [e2]; rfl))
    | (have h1 : (k == 1) = true := by assumption
       have hh : has L s r = true := by assumption
       obtain ⟨hk, e1, e2, e3⟩ := lg_1h (ok := ok) h0 h1 hh
       first | (rw [e1]; done) | (rw [e1]; exact (Reps.lit L).eqr) | (rw [e2]; done) | (rw [e2, if_pos rfl]; done) | (rw [e2, if_pos rfl, if_pos hk]; done) | (rw [e2, if_pos rfl, e3, Int.toNat_natCast]; rfl))
    | (have h1 : (k == 1) = false := by assumption
       have h5 : (k == 5) = true ∨ (k == 6) = true := by first | exact .inl (by assumption) | exact .inr (by assumption)
       have hh : has L s r = true := by assumption
       obtain ⟨hk, e1, e2, e3⟩ := lg_5h (ok := ok) h0 h1 h5 hh
       have hp := lg_pos h0 hh
       first | (rw [e1, gvH_len]; done) | (rw [e1, gvH_len, Int.toNat_natCast]; exact (gv_reps hp).eqr) | (rw [e2]; done) | (rw [e2, if_pos rfl]; done) | (rw [e2, if_pos rfl, if_neg hk]; done) | (rw [e2, if_pos rfl, e3]; done))
    | (have h1 : (k == 1) = true := by assumption
       have hh : has L s r = false := by assumption
       obtain ⟨hk, e1, e2, e3⟩ := lg_1n (ok := ok) h0 h1 hh
       first
         | (have hl : decide ((256 : Int) ≤ ((L.length : Nat) : Int)) = true := by assumption
            rw [(opn_full (e := _) (x := []) hl).1] at e1
            rw [(opn_full (e := H0) (x := _) hl).2] at e3
            first | (rw [e1]; done) | (rw [e1]; exact (Reps.lit L).eqr) | (rw [e2]; done) | (rw [e2, if_pos rfl]; done) | (rw [e2, if_pos rfl, if_pos hk]; done) | (rw [e2, if_pos rfl, e3]; done))
         | (have hl : decide ((256 : Int) ≤ ((L.length : Nat) : Int)) = false := by assumption
            rw [(opn_room (e := _) (x := []) hl).1] at e1
            rw [(opn_room (e := H0) (x := _) hl).2] at e3
            subst ok
            first | (rw [e1, insH_len]; done) | (rw [e1, insH_len, Int.toNat_natCast]; first | exact (ins_reps L ⟨s, r, a, 1⟩).eqr | exact (ins_reps L ⟨s, r, a, 2⟩).eqr) | (rw [e2]; done) | (rw [e2, if_pos rfl]; done) | (rw [e2, if_pos rfl, if_pos hk]; done) | (rw [e2, if_pos rfl, e3]; rfl)))
    | (have h1 : (k == 1) = false := by assumption
       have h5 : (k == 5) = true ∨ (k == 6) = true := by first | exact .inl (by assumption) | exact .inr (by assumption)
       have hh : has L s r = false := by assumption
       obtain ⟨hk, e1, e2, e3⟩ := lg_5n (ok := ok) h0 h1 h5 hh
       first
         | (have hl : decide ((256 : Int) ≤ ((L.length : Nat) : Int)) = true := by assumption
            rw [(opn_full (e := _) (x := []) hl).1] at e1
            rw [(opn_full (e := H0) (x := _) hl).2] at e3
            first | (rw [e1]; done) | (rw [e1]; exact (Reps.lit L).eqr) | (rw [e2]; done) | (rw [e2, if_pos rfl]; done) | (rw [e2, if_pos rfl, if_neg hk]; done) | (rw [e2, if_pos rfl, e3]; done))
         | (have hl : decide ((256 : Int) ≤ ((L.length : Nat) : Int)) = false := by assumption
            rw [(opn_room (e := _) (x := []) hl).1] at e1
            rw [(opn_room (e := H0) (x := _) hl).2] at e3
            first | (rw [e1, insH_len]; done) | (rw [e1, insH_len, Int.toNat_natCast]; exact (ins_reps L ⟨s, r, a, 3⟩).eqr) | (rw [e2]; done) | (rw [e2, if_pos rfl]; done) | (rw [e2, if_pos rfl, if_neg hk]; done) | (rw [e2, if_pos rfl, e3]; done)))
    | trace_state
end Go.Vd

set_option linter.unusedVariables false
set_option linter.unusedSimpArgs false
namespace Go.Vd
open Ieee

theorem log2_mul_pow {V : Nat} (h : V ≠ 0) (e : Nat) : (V * 2 ^ e).log2 = V.log2 + e := by
  have hp : 0 < 2 ^ e := Nat.two_pow_pos e
  have hne : V * 2 ^ e ≠ 0 := Nat.mul_ne_zero h (by omega)
  rw [Nat.log2_eq_iff hne]
  have h1 := Nat.log2_self_le h
  have h2 := @Nat.lt_log2_self V
  refine ⟨by rw [Nat.pow_add]; exact Nat.mul_le_mul_right _ h1, ?_⟩
  rw [show V.log2 + e + 1 = (V.log2 + 1) + e by omega, Nat.pow_add]
  exact Nat.mul_lt_mul_of_pos_right h2 hp
theorem cut_exact (way : Toward) (neg : Bool) (n d : Nat) : way.cut neg (n * 2 ^ d) d = n := by
  unfold Toward.cut
  rcases Nat.eq_zero_or_pos n with rfl | hn
  · simp
    cases way <;> simp
  · have hl : (n * 2 ^ d).log2 = n.log2 + d := log2_mul_pow (by omega) d
    have hm : min d ((n * 2 ^ d).log2 + 2) = d := by rw [hl]; omega
    have hp : 0 < 2 ^ d := Nat.two_pow_pos d
    simp only [hm, Nat.one_shiftLeft, Nat.mul_div_cancel _ hp, Nat.mul_mod_left]
    cases way <;> simp <;> omega
theorem cut_zero (way : Toward) (neg : Bool) (n : Nat) : way.cut neg n 0 = n := by
  have := cut_exact way neg n 0
  simpa using this

/-- The rung of a whole number. -/
def rungOf (V : Nat) : Nat := (V.log2 + 1022) * 4503599627370496 + V * 2 ^ (52 - V.log2)
theorem log2_le {V : Nat} (h0 : V ≠ 0) (hV : V < 9007199254740992) : V.log2 ≤ 52 := by
  have : V.log2 < 53 := (Nat.log2_lt h0).2 (by simpa using hV)
  omega
theorem kept_lo {V : Nat} (h0 : V ≠ 0) (hV : V < 9007199254740992) : 4503599627370496 ≤ V * 2 ^ (52 - V.log2) ∧ V * 2 ^ (52 - V.log2) < 9007199254740992 := by
  have hl := log2_le h0 hV
  have h1 := Nat.log2_self_le h0
  have h2 := @Nat.lt_log2_self V
  constructor
  · have := Nat.mul_le_mul_right (2 ^ (52 - V.log2)) h1
    rw [← Nat.pow_add, show V.log2 + (52 - V.log2) = 52 by omega] at this
    simpa using this
  · have := Nat.mul_lt_mul_of_pos_right h2 (Nat.two_pow_pos (52 - V.log2))
    rw [← Nat.pow_add, show V.log2 + 1 + (52 - V.log2) = 53 by omega] at this
    simpa using this
theorem nearest_whole (s : Bool) {V : Nat} (h0 : V ≠ 0) (hV : V < 9007199254740992) (e : Nat) : double.nearest s (V * 2 ^ e) (-(e : Int)) = double.word s (rungOf V) := by
  have hl := log2_le h0 hV
  obtain ⟨k1, k2⟩ := kept_lo h0 hV
  have hne : V * 2 ^ e ≠ 0 := Nat.mul_ne_zero h0 (by have := Nat.two_pow_pos e; omega)
  have hfb : double.fractionBits = 52 := rfl
  have hlp : double.leastPlace = -1074 := by rfl
  have hbin : double.binade = 4503599627370496 := by rfl
  have hinf : double.infRung = 9218868437227405312 := by rfl
  have hlast : max (-(e : Int) + ((V * 2 ^ e).log2 : Nat) - (double.fractionBits : Nat)) double.leastPlace = (V.log2 : Int) - 52 := by
    rw [log2_mul_pow h0, hfb, hlp]; omega
  unfold Format.nearest
  rw [if_neg hne]
  simp only [hlast]
  have hkept : Toward.even.cut s ((V * 2 ^ e) <<< (-(e : Int) - ((V.log2 : Int) - 52)).toNat) (((V.log2 : Int) - 52) - -(e : Int)).toNat = V * 2 ^ (52 - V.log2) := by
    rcases Nat.lt_or_ge (52 - V.log2) e with hc | hc
    · have e1 : (-(e : Int) - ((V.log2 : Int) - 52)).toNat = 0 := by omega
      have e2 : (((V.log2 : Int) - 52) - -(e : Int)).toNat = e - (52 - V.log2) := by omega
      rw [e1, e2, Nat.shiftLeft_zero]
      have e3 : V * 2 ^ e = (V * 2 ^ (52 - V.log2)) * 2 ^ (e - (52 - V.log2)) := by
        rw [Nat.mul_assoc, ← Nat.pow_add, show 52 - V.log2 + (e - (52 - V.log2)) = e by omega]
      rw [e3, cut_exact]
    · have e1 : (-(e : Int) - ((V.log2 : Int) - 52)).toNat = 52 - V.log2 - e := by omega
      have e2 : (((V.log2 : Int) - 52) - -(e : Int)).toNat = 0 := by omega
      rw [e1, e2, cut_zero, Nat.shiftLeft_eq, Nat.mul_assoc, ← Nat.pow_add, show e + (52 - V.log2 - e) = 52 - V.log2 by omega]
  rw [hkept, hlp, hbin, hinf]
  have e4 : ((V.log2 : Int) - 52 - -1074).toNat = V.log2 + 1022 := by omega
  rw [e4]
  have e5 : min ((V.log2 + 1022) * 4503599627370496 + V * 2 ^ (52 - V.log2)) 9218868437227405312 = rungOf V := by
    unfold rungOf
    generalize V * 2 ^ (52 - V.log2) = K at k1 k2 ⊢
    clear hkept hlast hne
    generalize V.log2 = l at hl ⊢
    clear hlp hbin hinf
    omega
  rw [e5]
theorem read_word (s : Bool) {V : Nat} (h0 : V ≠ 0) (hV : V < 9007199254740992) : double.read (double.word s (rungOf V)) = .number s (V * 2 ^ (52 - V.log2)) (-((52 - V.log2 : Nat) : Int)) := by
  have hl := log2_le h0 hV
  obtain ⟨k1, k2⟩ := kept_lo h0 hV
  have hlp : double.leastPlace = -1074 := by rfl
  have hbin : double.binade = 4503599627370496 := by rfl
  have hinf : double.infRung = 9218868437227405312 := by rfl
  have hsw : double.signWeight = 9223372036854775808 := by rfl
  have hr : rungOf V < 9218868437227405312 ∧ 4503599627370496 ≤ rungOf V := by
    unfold rungOf
    generalize V * 2 ^ (52 - V.log2) = K at k1 k2 ⊢
    generalize V.log2 = l at hl ⊢
    clear hlp hbin hinf hsw
    omega
  have hr0 : rungOf V < 9223372036854775808 := Nat.lt_trans hr.1 (by decide)
  have hneg : (double.word s (rungOf V) / double.signWeight % 2 == 1) = s := by
    unfold Format.word
    rw [hsw]
    cases s
    · simp [Nat.div_eq_of_lt hr0]
    · simp only [if_true]
      rw [Nat.add_div_left _ (by decide : 0 < 9223372036854775808), Nat.div_eq_of_lt hr0]
      rfl
  have hrung : double.word s (rungOf V) % double.signWeight = rungOf V := by
    unfold Format.word
    rw [hsw]
    cases s
    · simp [Nat.mod_eq_of_lt hr0]
    · simp only [if_true]
      rw [Nat.add_mod_left, Nat.mod_eq_of_lt hr0]
  unfold Format.read
  simp only [hneg, hrung]
  rw [if_neg (by rw [hbin]; exact Nat.not_lt.2 hr.2), if_pos (by rw [hinf]; exact hr.1), hbin, hlp]
  obtain ⟨K, hK⟩ : ∃ K, K = V * 2 ^ (52 - V.log2) := ⟨_, rfl⟩
  have hru : rungOf V / 4503599627370496 = V.log2 + 1023 ∧ rungOf V % 4503599627370496 = K - 4503599627370496 := by
    unfold rungOf
    rw [← hK] at k1 k2 ⊢
    clear hneg hrung hr hr0 hlp hbin hinf hsw hK
    generalize V.log2 = l at hl ⊢
    omega
  rw [hru.1, hru.2, ← hK]
  rw [← hK] at k1
  have q1 : 4503599627370496 + (K - 4503599627370496) = K := by omega
  have q2 : (-1074 : Int) + ((V.log2 + 1023 - 1 : Nat) : Int) = -((52 - V.log2 : Nat) : Int) := by omega
  rw [q1, q2]
/-- 2 ^ e, as an integer. -/
def pw (e : Nat) : Int := Int.ofNat (2 ^ e)
theorem pw_pos (e : Nat) : 0 < pw e := by have := Nat.two_pow_pos e; unfold pw; simp only [Int.ofNat_eq_natCast]; omega
/-- The word says the whole number. -/
def isZ (x : Nat) (n : Int) : Prop := ∃ (s : Bool) (e : Nat), double.read x = .number s (n.natAbs * 2 ^ e) (-(e : Int)) ∧ (n < 0 → s = true) ∧ (0 < n → s = false)
theorem read_zero (s : Bool) : double.read (double.word s 0) = .number s 0 (-1074) := by cases s <;> decide
theorem write_isZ (s : Bool) {n : Int} (hn : n.natAbs < 9007199254740992) (e : Nat) (h1 : n < 0 → s = true) (h2 : 0 < n → s = false) : isZ (double.write (.number s (n.natAbs * 2 ^ e) (-(e : Int)))) n := by
  unfold Format.write
  simp only
  rcases Nat.eq_zero_or_pos n.natAbs with h0 | h0
  · rw [h0, Nat.zero_mul]
    obtain ⟨k, hk⟩ : ∃ k : Nat, k = 1074 := ⟨_, rfl⟩
    refine ⟨s, k, ?_, h1, h2⟩
    unfold Format.nearest
    rw [if_pos rfl, read_zero, h0, Nat.zero_mul, hk]
    rfl
  · rw [nearest_whole s (by omega) hn]
    exact ⟨s, _, read_word s (by omega) hn, h1, h2⟩
theorem signed_isZ {s : Bool} {n : Int} {e u : Nat} (h1 : n < 0 → s = true) (h2 : 0 < n → s = false) : signed s (n.natAbs * 2 ^ e) u = n * pw (e + u) := by
  have key : ((n.natAbs * 2 ^ e) <<< u : Nat) = n.natAbs * 2 ^ (e + u) := by rw [Nat.shiftLeft_eq, Nat.mul_assoc, ← Nat.pow_add]
  unfold signed
  rw [key, Int.natCast_mul]
  have hq : ((2 ^ (e + u) : Nat) : Int) = pw (e + u) := rfl
  rw [hq]
  rcases Int.lt_trichotomy n 0 with hn | hn | hn
  · rw [h1 hn, if_pos rfl, ← Int.neg_mul, show -((n.natAbs : Nat) : Int) = n by omega]
  · subst hn; cases s <;> simp
  · rw [h2 hn, if_neg (by simp), show ((n.natAbs : Nat) : Int) = n by omega]
theorem sum_isZ {s t : Bool} {n m : Int} {e d : Nat} (h1 : n < 0 → s = true) (h2 : 0 < n → s = false) (g1 : m < 0 → t = true) (g2 : 0 < m → t = false) :
    ∃ (u : Bool) (q : Nat), Datum.sum (.number s (n.natAbs * 2 ^ e) (-(e : Int))) (.number t (m.natAbs * 2 ^ d) (-(d : Int))) = some (.number u ((n + m).natAbs * 2 ^ q) (-(q : Int))) ∧ (n + m < 0 → u = true) ∧ (0 < n + m → u = false) := by
  have hbase : min (-(e : Int)) (-(d : Int)) = -((max e d : Nat) : Int) := by omega
  have a1 : e + (-(e : Int) - -((max e d : Nat) : Int)).toNat = max e d := by omega
  have a2 : d + (-(d : Int) - -((max e d : Nat) : Int)).toNat = max e d := by omega
  have hp : 0 < pw (max e d) := pw_pos _
  obtain ⟨q, hq⟩ : ∃ q, q = max e d := ⟨_, rfl⟩
  rw [← hq] at hbase a1 a2 hp
  refine ⟨if (n + m) * pw q = 0 then s && t else decide ((n + m) * pw q < 0), q, ?_, ?_, ?_⟩
  · unfold Datum.sum
    simp only [hbase, signed_isZ h1 h2, signed_isZ g1 g2, a1, a2, ← Int.add_mul]
    have hna : ((n + m) * pw q).natAbs = (n + m).natAbs * 2 ^ q := by rw [Int.natAbs_mul]; rfl
    rw [hna]
  · intro h
    have : (n + m) * pw q < 0 := Int.mul_neg_of_neg_of_pos h hp
    rw [if_neg (by intro h0; rw [h0] at this; exact absurd this (by decide)), decide_eq_true this]
  · intro h
    have : 0 < (n + m) * pw q := Int.mul_pos h hp
    rw [if_neg (by intro h0; rw [h0] at this; exact absurd this (by decide)), decide_eq_false (Int.not_lt.2 (Int.le_of_lt this))]
theorem isZ_add {x y : Nat} {n m : Int} (hx : isZ x n) (hy : isZ y m) (hb : (n + m).natAbs < 9007199254740992) : ∃ z, double.add x y = some z ∧ isZ z (n + m) := by
  obtain ⟨s, e, r1, h1, h2⟩ := hx
  obtain ⟨t, d, r2, g1, g2⟩ := hy
  obtain ⟨u, q, r3, k1, k2⟩ := sum_isZ (e := e) (d := d) h1 h2 g1 g2
  refine ⟨_, ?_, write_isZ u hb q k1 k2⟩
  unfold Format.add
  rw [r1, r2, r3]
  rfl
theorem isZ_sub {x y : Nat} {n m : Int} (hx : isZ x n) (hy : isZ y m) (hb : (n - m).natAbs < 9007199254740992) : ∃ z, double.sub x y = some z ∧ isZ z (n - m) := by
  obtain ⟨s, e, r1, h1, h2⟩ := hx
  obtain ⟨t, d, r2, g1, g2⟩ := hy
  have g1' : -m < 0 → (!t) = true := fun h => by rw [g2 (by omega)]; rfl
  have g2' : 0 < -m → (!t) = false := fun h => by rw [g1 (by omega)]; rfl
  obtain ⟨u, q, r3, k1, k2⟩ := sum_isZ (e := e) (d := d) h1 h2 g1' g2'
  rw [Int.natAbs_neg, ← Int.sub_eq_add_neg] at r3
  rw [← Int.sub_eq_add_neg] at k1 k2
  refine ⟨_, ?_, write_isZ u hb q k1 k2⟩
  unfold Format.sub
  rw [r1, r2]
  simp only [Datum.opposite]
  rw [r3]
  rfl
theorem compare_scale (a b : Int) {k : Int} (hk : 0 < k) : compare (a * k) (b * k) = compare a b := by
  have h1 : a * k < b * k ↔ a < b := ⟨fun h => Int.lt_of_mul_lt_mul_right h (by omega), fun h => Int.mul_lt_mul_of_pos_right h hk⟩
  have h2 : a * k = b * k ↔ a = b := ⟨fun h => Int.eq_of_mul_eq_mul_right (by omega) h, fun h => by rw [h]⟩
  simp only [compare, compareOfLessAndEq, h1, h2]
theorem isZ_order {x y : Nat} {n m : Int} (hx : isZ x n) (hy : isZ y m) : double.order x y = some (compare n m) := by
  obtain ⟨s, e, r1, h1, h2⟩ := hx
  obtain ⟨t, d, r2, g1, g2⟩ := hy
  have hbase : min (-(e : Int)) (-(d : Int)) = -((max e d : Nat) : Int) := by omega
  have a1 : e + (-(e : Int) - -((max e d : Nat) : Int)).toNat = max e d := by omega
  have a2 : d + (-(d : Int) - -((max e d : Nat) : Int)).toNat = max e d := by omega
  have hp : 0 < pw (max e d) := pw_pos _
  unfold Format.order Datum.order
  rw [r1, r2]
  simp only [hbase, signed_isZ h1 h2, signed_isZ g1 g2, a1, a2]
  rw [compare_scale _ _ hp]
theorem isZ_fOf {n : Int} (hn : n.natAbs < 9007199254740992) : isZ (FloatKind.f64.nearest n) n := by
  have := write_isZ (decide (n < 0)) hn 0 (fun h => decide_eq_true h) (fun h => decide_eq_false (by omega))
  simpa [FloatKind.nearest, FloatKind.encode, FloatKind.format] using this
theorem isZ_toInt {x : Nat} {n : Int} (hx : isZ x n) : (FloatKind.f64.decode x).toInt .zero = some n := by
  obtain ⟨s, e, r1, h1, h2⟩ := hx
  have : FloatKind.f64.decode x = .number s (n.natAbs * 2 ^ e) (-(e : Int)) := r1
  rw [this]
  unfold Datum.toInt Datum.integral
  have e1 : (-(e : Int)).toNat = 0 := by omega
  have e2 : (- -(e : Int)).toNat = e := by omega
  simp only [e1, e2, Nat.shiftLeft_zero, cut_exact]
  have := signed_isZ (s := s) (e := 0) (u := 0) h1 h2
  rw [Nat.pow_zero, Nat.mul_one, show pw (0 + 0) = 1 from rfl, Int.mul_one] at this
  rw [this]
/-- A word that is a whole number from 0, by what it is held against. -/
theorem read_form {x : Nat} {s : Bool} {m : Nat} {i : Int} (h : double.read x = .number s m i) : i ≤ 0 ∨ 4503599627370496 ≤ m := by
  have hlp : double.leastPlace = -1074 := by rfl
  have hbin : double.binade = 4503599627370496 := by rfl
  unfold Format.read at h
  simp only at h
  split at h
  · cases h; rw [hlp]; left; decide
  · split at h
    · cases h; right; rw [hbin]; exact Nat.le_add_right _ _
    · split at h <;> cases h
theorem isZ_of_form {x : Nat} {s : Bool} {m : Nat} {i : Int} (hr : double.read x = .number s m i) {n : Nat} (hi : i ≤ 0) (hm : m = n * 2 ^ (-i).toNat) (hs : 0 < n → s = false) : isZ x n := by
  refine ⟨s, (-i).toNat, ?_, fun h => absurd h (by omega), fun h => hs (by omega)⟩
  rw [hr, Int.natAbs_natCast, ← hm, show -(((-i).toNat : Nat) : Int) = i by omega]
theorem compare_eq {a b : Int} (h : compare a b = .eq) : a = b := by
  simp only [compare, compareOfLessAndEq] at h
  split at h
  · cases h
  · split at h
    · assumption
    · cases h
theorem compare_lt' {a b : Int} : compare a b = .lt ↔ a < b := by
  simp only [compare, compareOfLessAndEq]
  split
  · simp_all
  · split <;> simp_all
theorem compare_gt' {a b : Int} : compare a b = .gt ↔ b < a := by
  simp only [compare, compareOfLessAndEq]
  split
  · simp; omega
  · split
    · simp; omega
    · simp; omega
theorem compare_eq' {a b : Int} : compare a b = .eq ↔ a = b := ⟨compare_eq, fun h => by subst h; simp [compare, compareOfLessAndEq]⟩
/-- What is equal to a small whole number is that. -/
theorem isZ_of_eq {x y n : Nat} (hy : isZ y n) (hn : n < 4503599627370496) (h : double.order x y = some .eq) : isZ x n := by
  obtain ⟨t, d, r2, g1, g2⟩ := hy
  unfold Format.order at h
  rw [r2] at h
  cases hr : double.read x with
  | nan s f => rw [hr] at h; cases h
  | infinity s => rw [hr] at h; cases s <;> cases h
  | number s m i =>
    rw [hr] at h
    unfold Datum.order at h
    simp only [Option.some.injEq] at h
    have h := compare_eq h
    have hj : ((n : Int).natAbs) = n := Int.natAbs_natCast n
    rw [signed_isZ g1 g2] at h
    rcases read_form hr with hi | hi
    · have hb : min i (-(d : Int)) ≤ 0 := by omega
      obtain ⟨q, hq⟩ : ∃ q : Nat, min i (-(d : Int)) = -(q : Int) := ⟨(-(min i (-(d : Int)))).toNat, by omega⟩
      rw [hq] at h
      have e1 : d + (-(d : Int) - -(q : Int)).toNat = q := by omega
      have e2 : (i - -(q : Int)).toNat = q - (-i).toNat := by omega
      rw [e1, e2] at h
      have hle : (-i).toNat ≤ q := by omega
      have hpos : 0 < 2 ^ (q - (-i).toNat) := Nat.two_pow_pos _
      have hsplit : (2 : Nat) ^ q = 2 ^ (-i).toNat * 2 ^ (q - (-i).toNat) := by rw [← Nat.pow_add, show (-i).toNat + (q - (-i).toNat) = q by omega]
      unfold signed at h
      rw [Nat.shiftLeft_eq] at h
      have hw : ((n : Int)) * pw q = ((n * 2 ^ q : Nat) : Int) := by rw [Int.natCast_mul]; rfl
      rw [hw] at h
      cases s
      · simp only [Bool.false_eq_true, if_false] at h
        have h2 : m * 2 ^ (q - (-i).toNat) = n * 2 ^ q := by omega
        rw [hsplit, ← Nat.mul_assoc] at h2
        exact isZ_of_form hr hi (Nat.eq_of_mul_eq_mul_right hpos h2) (fun _ => rfl)
      · simp only [if_true] at h
        have h2 : m * 2 ^ (q - (-i).toNat) = 0 ∧ n * 2 ^ q = 0 := by omega
        have hn0 : n = 0 := (Nat.mul_eq_zero.1 h2.2).resolve_right (by have := Nat.two_pow_pos q; omega)
        have hm0 : m = 0 := (Nat.mul_eq_zero.1 h2.1).resolve_right (by omega)
        subst hn0
        exact isZ_of_form hr hi (by rw [hm0]; simp) (fun h => absurd h (by omega))
    · rcases Int.lt_or_le 0 i with hi0 | hi0
      · exfalso
        have e1 : min i (-(d : Int)) = -(d : Int) := by omega
        rw [e1] at h
        have e2 : d + (-(d : Int) - -(d : Int)).toNat = d := by omega
        obtain ⟨j, hj2⟩ : ∃ j : Nat, (i - -(d : Int)).toNat = d + j := ⟨i.toNat, by omega⟩
        rw [e2, hj2] at h
        unfold signed at h
        rw [Nat.shiftLeft_eq] at h
        have hw : ((n : Int)) * pw d = ((n * 2 ^ d : Nat) : Int) := by rw [Int.natCast_mul]; rfl
        rw [hw] at h
        have hge : m * 2 ^ d ≤ m * 2 ^ (d + j) := Nat.mul_le_mul_left _ (Nat.pow_le_pow_right (by decide) (by omega))
        have hlt : n * 2 ^ d < m * 2 ^ d := Nat.mul_lt_mul_of_pos_right (by omega) (Nat.two_pow_pos d)
        cases s
        · simp only [Bool.false_eq_true, if_false] at h
          omega
        · simp only [if_true] at h
          omega
      · have hb : min i (-(d : Int)) ≤ 0 := by omega
        obtain ⟨q, hq⟩ : ∃ q : Nat, min i (-(d : Int)) = -(q : Int) := ⟨(-(min i (-(d : Int)))).toNat, by omega⟩
        rw [hq] at h
        have e1 : d + (-(d : Int) - -(q : Int)).toNat = q := by omega
        have e2 : (i - -(q : Int)).toNat = q - (-i).toNat := by omega
        rw [e1, e2] at h
        have hpos : 0 < 2 ^ (q - (-i).toNat) := Nat.two_pow_pos _
        have hsplit : (2 : Nat) ^ q = 2 ^ (-i).toNat * 2 ^ (q - (-i).toNat) := by rw [← Nat.pow_add, show (-i).toNat + (q - (-i).toNat) = q by omega]
        unfold signed at h
        rw [Nat.shiftLeft_eq] at h
        have hw : ((n : Int)) * pw q = ((n * 2 ^ q : Nat) : Int) := by rw [Int.natCast_mul]; rfl
        rw [hw] at h
        cases s
        · simp only [Bool.false_eq_true, if_false] at h
          have h2 : m * 2 ^ (q - (-i).toNat) = n * 2 ^ q := by omega
          rw [hsplit, ← Nat.mul_assoc] at h2
          exact isZ_of_form hr hi0 (Nat.eq_of_mul_eq_mul_right hpos h2) (fun _ => rfl)
        · simp only [if_true] at h
          have h2 : m * 2 ^ (q - (-i).toNat) = 0 ∧ n * 2 ^ q = 0 := by omega
          have hn0 : n = 0 := (Nat.mul_eq_zero.1 h2.2).resolve_right (by have := Nat.two_pow_pos q; omega)
          have hm0 : m = 0 := (Nat.mul_eq_zero.1 h2.1).resolve_right (by omega)
          subst hn0
          exact isZ_of_form hr hi0 (by rw [hm0]; simp) (fun h => absurd h (by omega))
end Go.Vd

set_option linter.unusedVariables false
set_option linter.unusedSimpArgs false
namespace Go.Vd
open Ieee
def floorW (x : Nat) : Nat := FloatKind.f64.encode ((FloatKind.f64.decode x).integral .down)
theorem cut_down (n d : Nat) : Toward.down.cut false n d = n / 2 ^ d := by
  unfold Toward.cut
  simp only [Bool.false_and, Bool.toNat_false, Nat.add_zero, Nat.one_shiftLeft]
  rcases Nat.le_total d (n.log2 + 2) with h | h
  · rw [Nat.min_eq_left h]
  · rw [Nat.min_eq_right h]
    have hlt : n < 2 ^ (n.log2 + 2) := Nat.lt_trans Nat.lt_log2_self (Nat.pow_lt_pow_right (by decide) (by omega))
    rw [Nat.div_eq_of_lt hlt, Nat.div_eq_of_lt (Nat.lt_of_lt_of_le hlt (Nat.pow_le_pow_right (by decide) h))]
theorem floor_isZ {x n : Nat} (h : isZ x n) (hn : n < 9007199254740992) : isZ (floorW x) n := by
  obtain ⟨s, e, r1, h1, h2⟩ := h
  have hr : FloatKind.f64.decode x = .number s ((n : Int).natAbs * 2 ^ e) (-(e : Int)) := r1
  unfold floorW
  rw [hr]
  unfold Datum.integral
  have e1 : (-(e : Int)).toNat = 0 := by omega
  have e2 : (- -(e : Int)).toNat = e := by omega
  simp only [e1, e2, Nat.shiftLeft_zero, cut_exact]
  have := write_isZ s (n := (n : Int)) (by rw [Int.natAbs_natCast]; exact hn) 0 h1 h2
  simpa [FloatKind.encode, FloatKind.format] using this
theorem order_lt_bound {x n : Nat} {s : Bool} {m : Nat} {i : Int} {y : Nat} (hr : double.read x = .number s m i) (hy : isZ y n) (h : double.order x y = some .lt) (hs : s = false) (hi : i ≤ 0) : m < n * 2 ^ (-i).toNat := by
  obtain ⟨t, d, r2, g1, g2⟩ := hy
  unfold Format.order at h
  rw [r2, hr] at h
  unfold Datum.order at h
  simp only [Option.some.injEq] at h
  have h := compare_lt'.1 h
  subst hs
  rw [signed_isZ g1 g2] at h
  obtain ⟨q, hq⟩ : ∃ q : Nat, min i (-(d : Int)) = -(q : Int) := ⟨(-(min i (-(d : Int)))).toNat, by omega⟩
  rw [hq] at h
  have e1 : d + (-(d : Int) - -(q : Int)).toNat = q := by omega
  have e2 : (i - -(q : Int)).toNat = q - (-i).toNat := by omega
  rw [e1, e2] at h
  have hpos : 0 < 2 ^ (q - (-i).toNat) := Nat.two_pow_pos _
  have hsplit : (2 : Nat) ^ q = 2 ^ (-i).toNat * 2 ^ (q - (-i).toNat) := by rw [← Nat.pow_add, show (-i).toNat + (q - (-i).toNat) = q by omega]
  unfold signed at h
  rw [Nat.shiftLeft_eq] at h
  have hw : ((n : Int)) * pw q = ((n * 2 ^ q : Nat) : Int) := by rw [Int.natCast_mul]; rfl
  rw [hw] at h
  simp only [Bool.false_eq_true, if_false] at h
  have h2 : m * 2 ^ (q - (-i).toNat) < n * 2 ^ q := by omega
  rw [hsplit, ← Nat.mul_assoc] at h2
  exact Nat.lt_of_mul_lt_mul_right h2
theorem order_far {x n : Nat} {m : Nat} {i : Int} {y : Nat} (hr : double.read x = .number false m i) (hy : isZ y n) (hn : n < 4503599627370496) (hi : 0 < i) (hm : 4503599627370496 ≤ m) : double.order x y ≠ some .lt := by
  intro h
  obtain ⟨t, d, r2, g1, g2⟩ := hy
  unfold Format.order at h
  rw [r2, hr] at h
  unfold Datum.order at h
  simp only [Option.some.injEq] at h
  have h := compare_lt'.1 h
  rw [signed_isZ g1 g2] at h
  have e1 : min i (-(d : Int)) = -(d : Int) := by omega
  rw [e1] at h
  have e2 : d + (-(d : Int) - -(d : Int)).toNat = d := by omega
  obtain ⟨j, hj2⟩ : ∃ j : Nat, (i - -(d : Int)).toNat = d + j := ⟨i.toNat, by omega⟩
  rw [e2, hj2] at h
  unfold signed at h
  rw [Nat.shiftLeft_eq] at h
  have hw : ((n : Int)) * pw d = ((n * 2 ^ d : Nat) : Int) := by rw [Int.natCast_mul]; rfl
  rw [hw] at h
  have hge : m * 2 ^ d ≤ m * 2 ^ (d + j) := Nat.mul_le_mul_left _ (Nat.pow_le_pow_right (by decide) (by omega))
  have hlt : n * 2 ^ d < m * 2 ^ d := Nat.mul_lt_mul_of_pos_right (by omega) (Nat.two_pow_pos d)
  simp only [Bool.false_eq_true, if_false] at h
  omega
/-- From 0 to below a small number, and equal to itself made whole: a whole number. -/
theorem isZ_of_floor {x z y n : Nat} (hz : isZ z (0 : Nat)) (hy : isZ y n) (hn : n < 4503599627370496) (h0 : double.order x z = some .gt ∨ double.order x z = some .eq) (h1 : double.order x y = some .lt) (h2 : double.order x (floorW x) = some .eq) : ∃ k : Nat, k < n ∧ isZ x k := by
  rcases h0 with h0 | h0
  · cases hr : double.read x with
    | nan s f => unfold Format.order at h0; rw [hr] at h0; cases h0
    | infinity s =>
      unfold Format.order at h0 h1
      obtain ⟨t, d, r2, _⟩ := hz
      obtain ⟨t2, d2, r3, _⟩ := hy
      rw [hr, r2] at h0
      rw [hr, r3] at h1
      cases s
      · cases h1
      · cases h0
    | number s m i =>
      have hs : s = false := by
        cases s
        · rfl
        · exfalso
          unfold Format.order at h0
          obtain ⟨t, d, r2, g1, g2⟩ := hz
          rw [hr, r2] at h0
          unfold Datum.order at h0
          simp only [Option.some.injEq] at h0
          have h0 := compare_gt'.1 h0
          rw [signed_isZ g1 g2] at h0
          unfold signed at h0
          simp only [if_true, Int.natCast_zero, Int.zero_mul] at h0
          have hnn := Int.natCast_nonneg (m <<< (i - min i (-(d : Int))).toNat)
          omega
      subst hs
      have hi : i ≤ 0 := by
        rcases read_form hr with hi | hi
        · exact hi
        · rcases Int.lt_or_le 0 i with hi0 | hi0
          · exact absurd h1 (order_far hr hy hn hi0 hi)
          · exact hi0
      have hb := order_lt_bound hr hy h1 rfl hi
      obtain ⟨k, hk⟩ : ∃ k, k = m / 2 ^ (-i).toNat := ⟨_, rfl⟩
      have hq : k < n := by rw [hk]; exact Nat.div_lt_of_lt_mul (by rw [Nat.mul_comm]; exact hb)
      have hfl : floorW x = double.write (.number false k 0) := by
        unfold floorW
        have hr2 : FloatKind.f64.decode x = .number false m i := hr
        rw [hr2]
        unfold Datum.integral
        have e1 : i.toNat = 0 := by omega
        simp only [e1, Nat.shiftLeft_zero, cut_down]
        rw [← hk]
        rfl
      have hw : isZ (floorW x) (k : Nat) := by
        rw [hfl]
        have := write_isZ false (n := (k : Int)) (by rw [Int.natAbs_natCast]; omega) 0 (fun h => absurd h (by omega)) (fun _ => rfl)
        simpa using this
      exact ⟨k, hq, isZ_of_eq hw (by omega) h2⟩
  · have := isZ_of_eq hz (by decide) h0
    have hlt : (0 : Int) < n := by
      have h3 := isZ_order this hy
      rw [h1] at h3
      have h4 := compare_lt'.1 (Option.some.inj h3.symm)
      simpa using h4
    exact ⟨0, by omega, this⟩
end Go.Vd

