/- slices.Insert of one element into a row of the call's own (entries). -/
import Derived.Test.YtjgfkbmplgiinaaGreatDoorVdI1
import Derived.Test.YtjgfkbmplgiinaaGreatDoorVdM1
set_option linter.unusedVariables false
set_option linter.unusedSimpArgs false
set_option maxRecDepth 100000
set_option maxHeartbeats 4000000
namespace Go.Proofs
open Go.RowKit Go.Lib Go.Vd
theorem insE_mid (w : World) (g0 n cap k : Nat) (cur : Array Value) (a : Addr) (c : Nat) (news : List Value) (hk : k < n) (hroom : n + 1 ≤ cap) (hcap : cap ≤ 9223372036854775807)
    (hg : isC w g0 cur 30 8) (hcs : cur.size = cap * 8) (hone : ∀ v ∈ cur.toList.take (n * 8), v.oneCell' = true) (hnl : news.length = 8) (hnc : ∀ j v, news[j]? = some v → w.cell? (a.add j) = some v) (hn1 : ∀ v ∈ news, v.oneCell' = true) (hne : a.block ≠ g0)
    (hov : ∀ lb cb, (callFunc 89 #[.slice (some a) 1 c, .slice (some ⟨g0, (k + 1) * 8, none⟩) lb cb]).run Tryz.prog w = .ok (.value (.bool false)) w) :
    Calls Tryz.prog 64 #[.slice (some ⟨g0, 0, none⟩) n cap, .int .i64 k, .slice (some a) 1 c] w fun e w' =>
      e = .returned (.slice (some ⟨g0, 0, none⟩) (n + 1) cap) ∧ ∃ cur2, isC w' g0 cur2 30 8 ∧ cur2.size = cur.size ∧ cur2.toList.take ((n + 1) * 8) = (cur.toList.take (n * 8)).take (k * 8) ++ news ++ (cur.toList.take (n * 8)).drop (k * 8) ∧ w.grownBy w' (some g0) := by
  obtain ⟨ii, dd, zz, hi, hd, hs, _⟩ := ty30_ok
  have his : ii.size = 8 := hs
  obtain ⟨cs1, hcs1⟩ : ∃ cs1, cs1 = (cur.toList.take (n * 8)).drop (k * 8) := ⟨_, rfl⟩
  have hl1 : cs1.length = (n - k) * 8 := by rw [hcs1, List.length_drop, List.length_take, Array.length_toList]; omega
  have hm1 : Nat.min (n + 1 - k) (n - k) = n - k := by simp only [Nat.min_def]; split <;> omega
  have hm2 : Nat.min 1 (n + 1 - k) = 1 := by simp only [Nat.min_def]; split <;> omega
  obtain ⟨cur1, hcur1⟩ : ∃ cur1, cur1 = (cur.toList.take ((k + 1) * 8) ++ cs1 ++ cur.toList.drop ((k + 1) * 8 + cs1.length)).toArray := ⟨_, rfl⟩
  have hz1 : cur1.size = cur.size := by
    rw [hcur1]
    simp only [List.size_toArray, List.length_append, List.length_take, List.length_drop, Array.length_toList]
    omega
  have hgd : isC w.drew g0 cur 30 8 := hg
  have hcp1 : ∀ ty dc sc, (Builtin.copy_ #[40, 40] ty #[.slice (some ⟨g0, (k + 1) * 8, none⟩) (n - k) dc, .slice (some ⟨g0, k * 8, none⟩) (n + 1 - k) sc]).run Tryz.prog w.drew = .ok (goInt (n - k : Nat)) (w.drew.setRow g0 cur1) := fun ty dc sc => by
    have h := run_copy_k (P := Tryz.prog) w.drew 40 40 ty 30 g0 ((k + 1) * 8) (n - k) dc 8 ⟨g0, k * 8, none⟩ (n + 1 - k) sc cur 30 cs1 Tryz.underlying40 hi his hgd (by rw [hm1]; exact hl1)
      (fun j v hj => by
        rw [Addr.add_lit, hgd.cell, ← Array.getElem?_toList]
        rw [hcs1, List.getElem?_drop, List.getElem?_take] at hj
        split at hj
        · exact hj
        · cases hj) (by omega) (fun v hv => hone v (List.mem_of_mem_drop (hcs1 ▸ hv)))
    rw [hm1, ← hcur1] at h
    exact h
  obtain ⟨W1, hW1⟩ : ∃ W1, W1 = w.drew.setRow g0 cur1 := ⟨_, rfl⟩
  have hg1 : isC W1 g0 cur1 30 8 := by rw [hW1]; exact hgd.set hz1
  have hoth : ∀ b, b ≠ g0 → W1.heap[b]? = w.heap[b]? := fun b hb => by
    rw [hW1]
    simp only [World.setRow, Array.getElem?_modify]
    rw [if_neg (fun e => hb e.symm)]
    rfl
  have hcella : ∀ j, W1.cell? (a.add j) = w.cell? (a.add j) := fun j => by
    have hb : (a.add j).block = a.block := block_add a j
    unfold World.cell?
    rw [hb, hoth _ hne]
  obtain ⟨cur2, hcur2⟩ : ∃ cur2, cur2 = (cur1.toList.take (k * 8) ++ news ++ cur1.toList.drop (k * 8 + news.length)).toArray := ⟨_, rfl⟩
  have hz2 : cur2.size = cur1.size := by
    rw [hcur2]
    simp only [List.size_toArray, List.length_append, List.length_take, List.length_drop, Array.length_toList]
    omega
  have hcp2 : ∀ ty dc, (Builtin.copy_ #[40, 40] ty #[.slice (some ⟨g0, k * 8, none⟩) (n + 1 - k) dc, .slice (some a) 1 c]).run Tryz.prog W1 = .ok (goInt (1 : Nat)) (W1.setRow g0 cur2) := fun ty dc => by
    have h := run_copy_k (P := Tryz.prog) W1 40 40 ty 30 g0 (k * 8) (n + 1 - k) dc 8 a 1 c cur1 30 news Tryz.underlying40 hi his hg1 (by rw [hm2]; omega)
      (fun j v hj => by rw [hcella]; exact hnc j v hj) (by omega) hn1
    rw [hm2, ← hcur2] at h
    exact h
  rw [← hW1] at hcp1
  have hfin : cur2.toList.take ((n + 1) * 8) = (cur.toList.take (n * 8)).take (k * 8) ++ news ++ (cur.toList.take (n * 8)).drop (k * 8) := by
    rw [hcur2, hcur1, hcs1, hnl, Nat.add_mul, Nat.add_mul, Nat.one_mul]
    simp only [List.toList_toArray]
    exact list_ins cur.toList news (k * 8) (n * 8) 8 (by omega) (by rw [Array.length_toList]; omega) hnl
  have hgrow : w.grownBy (W1.setRow g0 cur2) (some g0) := by
    refine ⟨?_, ?_, ?_, ?_, fun b hb hne2 => ?_⟩
    · rw [hW1]; rfl
    · rw [hW1]; rfl
    · rw [hW1]; rfl
    · rw [hW1]; simp [World.setRow]
    · simp only [World.setRow, Array.getElem?_modify]
      rw [if_neg (fun e => hne2 (by rw [e])), hoth b (fun e => hne2 (by rw [e]))]
  have hw1 : IntKind.i64.wrap ((k : Int) + 1) = (k : Int) + 1 := by rw [IntKind.wrap_i64]; omega
  have hb1 : (0 : Int) ≤ (k : Int) + 1 := by omega
  have hin : k ≤ n := by omega
  have htn : ((k : Int) + 1).toNat = k + 1 := by omega
  have hb2 : ¬ (cap = k + 1) := by omega
  have hb3 : (k : Int) ≤ (n : Int) + 1 := by omega
  have hb4 : ¬ (cap = k) := by omega
  clear hW1 hcur2 hcur1 hcs1
  go_enter Tryz.func64, Tryz.ntmps64
  go_wp2_with (simp only [hov])
  go_region_law (refine step_copyR rfl _ _ 40 40 rfl _ _ (by simp [Act.eval, Act.put]) (by simp [Act.eval, Act.put]) (hcp1 _ _ _) ?_)
  go_wp2_with (at_builtin; refine wpList_copyR _ rfl _ _ 40 40 rfl _ _ rfl rfl (hcp2 _ _) ?_)
  go_ret
  exact ⟨rfl, cur2, hg1.set hz2, hz2.trans hz1, hfin, hgrow⟩
theorem insE_grow (w : World) (g0 n k : Nat) (cur : Array Value) (a : Addr) (c : Nat) (news : List Value) (hk : k < n) (hn0 : n ≤ 1000000)
    (hg : isC w g0 cur 30 8) (hcs : cur.size = n * 8) (hone : ∀ v ∈ cur.toList.take (n * 8), v.oneCell' = true) (hnl : news.length = 8) (hnc : ∀ j v, news[j]? = some v → w.cell? (a.add j) = some v) (hn1 : ∀ v ∈ news, v.oneCell' = true) (hab : a.block < w.heap.size) :
    Calls Tryz.prog 64 #[.slice (some ⟨g0, 0, none⟩) n n, .int .i64 k, .slice (some a) 1 c] w fun e w' =>
      ∃ G cur2, e = .returned (.slice (some ⟨w.heap.size, 0, none⟩) (n + 1) G) ∧ n + 1 ≤ G ∧ G ≤ maxLen ∧ isC w' w.heap.size cur2 30 8 ∧ cur2.size = G * 8 ∧ cur2.toList.take ((n + 1) * 8) = (cur.toList.take (n * 8)).take (k * 8) ++ news ++ (cur.toList.take (n * 8)).drop (k * 8) ∧ w.grownBy w' none := by
  obtain ⟨ii, dd, zz, hi, hd, hs, _, _, _, hz0, _, _, hzs, _⟩ := ty30_ok
  have his : ii.size = 8 := hs
  have hib : ii.bytes ≤ 1000 := by
    have := hi.symm.trans (show Tryz.prog.info? 30 = some _ from rfl)
    simp only [Option.some.injEq] at this
    rw [this]
    decide
  rw [his] at hzs
  obtain ⟨xs, hxs⟩ : ∃ xs, xs = cur.toList.take (n * 8) := ⟨_, rfl⟩
  have hxl : xs.length = n * 8 := by rw [hxs, List.length_take, Array.length_toList]; omega
  have hcell : ∀ j v, xs[j]? = some v → w.cell? ⟨g0, j, none⟩ = some v := fun j v hj => by
    rw [hg.cell, ← Array.getElem?_toList]
    rw [hxs, List.getElem?_take] at hj
    split at hj
    · exact hj
    · cases hj
  have hg0 : g0 < w.heap.size := hg.lt
  rw [← hxs] at hone ⊢
  obtain ⟨G, hG⟩ : ∃ G, G = grownCap w (n + 1) n 30 := ⟨_, rfl⟩
  have hGn : n + 1 ≤ G := by rw [hG]; exact grownCap_ge w _ _ _
  have hGm : G ≤ maxLen := by rw [hG]; exact grownCap_le_maxLen w (n + 1) n 30 (by simp only [maxLen]; omega)
  have hG63 : G ≤ 9223372036854775807 := hGm
  have hold : (Builtin.firstCells ii.size k (.slice (some ⟨g0, 0, none⟩) k n)).run Tryz.prog w.drew = .ok (xs.take (k * 8)).toArray w.drew := by
    rw [his]
    exact run_firstCells_some w.drew 8 k ⟨g0, 0, none⟩ k n (xs.take (k * 8)) (by rw [List.length_take]; omega) (fun j v hj => by
      rw [Addr.add_lit, Nat.zero_add]
      rw [List.getElem?_take] at hj
      split at hj
      · exact hcell j v hj
      · cases hj)
  have hik : k + (n + 1 - k) = n + 1 := by omega
  have hkk : (n : Int) + 1 - (k : Int) = ((n + 1 - k : Nat) : Int) := by omega
  obtain ⟨ROW, hROW⟩ : ∃ ROW : Array Value, ROW = (xs.take (k * 8)).toArray ++ Builtin.zeroCells zz.cells (n + 1 - k) ++ Builtin.zeroCells zz.cells (G - (n + 1)) := ⟨_, rfl⟩
  have hrz : ∀ ty, (Builtin.append_ #[40, 3] ty #[.slice (some ⟨g0, 0, none⟩) k n, .int .i64 ((n : Int) + 1 - (k : Int))]).run Tryz.prog w =
      .ok (.slice (some ⟨w.heap.size, 0, none⟩) (n + 1) G) ((w.alloc (.cells ROW 30)).drew) := fun ty => by
    have h := Lib.run_append_grow_zeros w 40 3 ty 30 ii zz .i64 .i64 Tryz.underlying40 Tryz.underlying3 hi hz0 (some ⟨g0, 0, none⟩) k n (xs.take (k * 8)) hold (n + 1 - k) (by omega) (by omega) (by omega) (by omega)
      (Nat.le_trans (Nat.mul_le_mul (show n + 1 - k ≤ 1000001 by omega) hib) (by decide)) (by rw [hik]; exact growslice_fits (by omega) (Nat.le_trans (Nat.mul_le_mul (show n + 1 ≤ 1000001 by omega) hib) (by decide)))
    rw [hik, ← hG, ← hROW] at h
    rw [hkk]
    exact h
  have hRs : ROW.size = G * 8 := by
    rw [hROW]
    simp only [Array.size_append, List.size_toArray, List.length_take, size_zeroCells, hzs, hxl]
    omega
  obtain ⟨Z, hRZ⟩ : ∃ Z, ROW.toList = xs.take (k * 8) ++ Z := ⟨(Builtin.zeroCells zz.cells (n + 1 - k) ++ Builtin.zeroCells zz.cells (G - (n + 1))).toList, by rw [hROW]; simp⟩
  have hg1 : isC ((w.alloc (.cells ROW 30)).drew) w.heap.size ROW 30 8 := .of (heap_alloc_new w _)
  obtain ⟨row1, hrow1⟩ : ∃ row1, row1 = (ROW.toList.take (k * 8) ++ news ++ ROW.toList.drop (k * 8 + news.length)).toArray := ⟨_, rfl⟩
  have hz1 : row1.size = ROW.size := by
    rw [hrow1]
    simp only [List.size_toArray, List.length_append, List.length_take, List.length_drop, Array.length_toList]
    omega
  have hmA : Nat.min 1 (n + 1 - k) = 1 := by simp only [Nat.min_def]; split <;> omega
  have hcpA : ∀ ty dc, (Builtin.copy_ #[40, 40] ty #[.slice (some ⟨w.heap.size, k * 8, none⟩) (n + 1 - k) dc, .slice (some a) 1 c]).run Tryz.prog ((w.alloc (.cells ROW 30)).drew) = .ok (goInt (1 : Nat)) (((w.alloc (.cells ROW 30)).drew).setRow w.heap.size row1) := fun ty dc => by
    have h := run_copy_k (P := Tryz.prog) ((w.alloc (.cells ROW 30)).drew) 40 40 ty 30 w.heap.size (k * 8) (n + 1 - k) dc 8 a 1 c ROW 30 news Tryz.underlying40 hi his hg1 (by rw [hmA]; omega)
      (fun j v hj => by
        have h1 := hnc j v hj
        have hb : (a.add j).block = a.block := block_add a j
        unfold World.cell? at h1 ⊢
        rw [hb] at h1 ⊢
        rw [show ((w.alloc (.cells ROW 30)).drew).heap[a.block]? = w.heap[a.block]? from heap_alloc_old w _ hab]
        exact h1) (by omega) hn1
    rw [hmA, ← hrow1] at h
    exact h
  obtain ⟨W2, hW2⟩ : ∃ W2, W2 = ((w.alloc (.cells ROW 30)).drew).setRow w.heap.size row1 := ⟨_, rfl⟩
  have hg2 : isC W2.drew w.heap.size row1 30 8 := by
    have : isC W2 w.heap.size row1 30 8 := by rw [hW2]; exact hg1.set hz1
    exact this
  have hoth : ∀ b, b < w.heap.size → W2.heap[b]? = w.heap[b]? := fun b hb => by
    rw [hW2]
    simp only [World.setRow, Array.getElem?_modify]
    rw [if_neg (by omega)]
    exact heap_alloc_old w _ hb
  obtain ⟨row2, hrow2⟩ : ∃ row2, row2 = (row1.toList.take ((k + 1) * 8) ++ xs.drop (k * 8) ++ row1.toList.drop ((k + 1) * 8 + (xs.drop (k * 8)).length)).toArray := ⟨_, rfl⟩
  have hdl : (xs.drop (k * 8)).length = (n - k) * 8 := by rw [List.length_drop, hxl]; omega
  have hz2 : row2.size = row1.size := by
    rw [hrow2]
    simp only [List.size_toArray, List.length_append, List.length_take, List.length_drop, Array.length_toList]
    omega
  have hmB : Nat.min (n - k) (n - k) = n - k := Nat.min_self _
  have hcpB : ∀ ty dc sc, (Builtin.copy_ #[40, 40] ty #[.slice (some ⟨w.heap.size, (k + 1) * 8, none⟩) (n - k) dc, .slice (some ⟨g0, k * 8, none⟩) (n - k) sc]).run Tryz.prog W2.drew = .ok (goInt (n - k : Nat)) (W2.drew.setRow w.heap.size row2) := fun ty dc sc => by
    have h := run_copy_k (P := Tryz.prog) W2.drew 40 40 ty 30 w.heap.size ((k + 1) * 8) (n - k) dc 8 ⟨g0, k * 8, none⟩ (n - k) sc row1 30 (xs.drop (k * 8)) Tryz.underlying40 hi his hg2 (by rw [hmB]; exact hdl)
      (fun j v hj => by
        rw [List.getElem?_drop] at hj
        have h1 := hcell _ v hj
        rw [Addr.add_lit]
        unfold World.cell? at h1 ⊢
        rw [show W2.drew.heap[g0]? = w.heap[g0]? from hoth g0 hg0]
        exact h1) (by omega) (fun v hv => hone v (List.mem_of_mem_drop hv))
    rw [hmB, ← hrow2] at h
    exact h
  rw [← hW2] at hcpA
  have hfin : row2.toList.take ((n + 1) * 8) = xs.take (k * 8) ++ news ++ xs.drop (k * 8) := by
    rw [hrow2, hrow1, Nat.add_mul, Nat.add_mul, Nat.one_mul]
    simp only [List.toList_toArray]
    exact list_ins2 ROW.toList xs news (xs.drop (k * 8)) Z (k * 8) (n * 8) 8 (by omega) hxl hRZ (by rw [Array.length_toList]; omega) hnl rfl
  have hgrow : w.grownBy (W2.drew.setRow w.heap.size row2) none := by
    refine ⟨?_, ?_, ?_, ?_, fun b hb _ => ?_⟩
    · rw [hW2]; rfl
    · rw [hW2]; rfl
    · rw [hW2]; rfl
    · rw [hW2]
      show w.heap.size ≤ (Array.modify _ _ _).size
      rw [Array.size_modify]
      show w.heap.size ≤ (Array.modify _ _ _).size
      rw [Array.size_modify]
      exact Nat.le_of_lt hg1.lt
    · simp only [World.setRow, Array.getElem?_modify]
      rw [if_neg (by omega)]
      exact hoth b hb
  have hw1 : IntKind.i64.wrap ((k : Int) + 1) = (k : Int) + 1 := by rw [IntKind.wrap_i64]; omega
  have hb1 : (0 : Int) ≤ (k : Int) + 1 := by omega
  have hin : k ≤ n := by omega
  have htn : ((k : Int) + 1).toNat = k + 1 := by omega
  have hb2 : ¬ (G = k + 1) := by omega
  have hb3 : (k : Int) ≤ (n : Int) := by omega
  have hb4 : ¬ (n = k) := by omega
  have hb5 : ¬ (G = k) := by omega
  clear hkk hik hold hW2 hROW hG hrow1 hrow2 hRZ hdl hxl hcell
  go_enter Tryz.func64, Tryz.ntmps64
  go_wp2_with (first
    | (at_builtin; refine wpList_appR _ rfl _ _ 40 3 rfl _ _ rfl rfl (hrz _) ?_)
    | (at_builtin; refine wpList_copyR _ rfl _ _ 40 40 rfl _ _ rfl rfl (hcpA _ _) ?_))
  go_region_law (refine step_copyR rfl _ _ 40 40 rfl _ _ (by simp [Act.eval, Act.put]) (by simp [Act.eval, Act.put]) (hcpB _ _ _) ?_)
  go_wp2
  go_ret
  exact ⟨G, row2, rfl, hGn, hGm, hg2.set hz2, hz2.trans (hz1.trans hRs), hfin, hgrow⟩
theorem insE_end (w : World) (a0 : Option Addr) (n cap : Nat) (hnc : n ≤ cap) (hn0 : n ≤ 1000000) (a : Addr) (c : Nat) (v' : Value) (w' : World)
    (hrun : ∀ ty, (Builtin.append_ #[40, 40] ty #[.slice a0 n cap, .slice (some a) 1 c]).run Tryz.prog w = .ok v' w') :
    Calls Tryz.prog 64 #[.slice a0 n cap, .int .i64 n, .slice (some a) 1 c] w fun e W => e = .returned v' ∧ W = w' := by
  go_enter Tryz.func64, Tryz.ntmps64
  cases a0 with
  | none =>
    go_wp2_with (at_builtin; refine wpList_appR _ rfl _ _ 40 40 rfl _ _ rfl rfl (hrun _) ?_)
    all_goals (go_ret; exact ⟨rfl, rfl⟩)
  | some b =>
    obtain ⟨bb, bo, bs⟩ := b
    go_wp2_with (at_builtin; refine wpList_appR _ rfl _ _ 40 40 rfl _ _ rfl rfl (hrun _) ?_)
    all_goals (go_ret; exact ⟨rfl, rfl⟩)
/-- The row with one element more. -/
theorem insE_ok (gl : Nat → SV) (n : Nat) (g : Nat → Nat → SV) (i : Int) (h : Nat → Nat → SV) (hi0 : 0 ≤ i ∧ i ≤ (n : Int)) (hn0 : n ≤ 1000000) :
    GoodW Tryz.prog gl 64 30 8 n g [.int .i64 i, .slc 1 8 h] (n + 1) (insS g i.toNat h) := by
  intro w ρ rw N v vs xs hrw hgl hv hown hone hrel hargs
  obtain ⟨ii, dd, zz, hi, hd, hs, _, _, _, hz0, _, _, hzs, _⟩ := ty30_ok
  have his : ii.size = 8 := hs
  have hib : ii.bytes ≤ 1000 := by
    have := hi.symm.trans (show Tryz.prog.info? 30 = some _ from rfl)
    simp only [Option.some.injEq] at this
    rw [this]
    decide
  rw [his] at hzs
  match vs, hargs with
  | [v1, v2], ⟨r1, r2, _⟩ =>
    obtain ⟨k, hk⟩ : ∃ k : Nat, i = (k : Int) := ⟨i.toNat, by omega⟩
    subst hk
    have hkn : k ≤ n := by omega
    rw [Int.toNat_natCast]
    have e1 := r1.eq_int
    subst e1
    cases r2 with
    | slc ad _ c _ _ g2 hc1 hcc hca hcr =>
      obtain ⟨a, rfl, hsp⟩ := hca (by omega)
      obtain ⟨news, hnews⟩ : ∃ news, news = (List.range 8).map (g2 0) := ⟨_, rfl⟩
      have hnl : news.length = 8 := by rw [hnews]; simp
      have hnj : ∀ j u, news[j]? = some u → j < 8 ∧ u = g2 0 j := fun j u hj => by
        rw [hnews, getElem?_range_map] at hj
        split at hj
        · rename_i hlt; exact ⟨hlt, (Option.some.inj hj).symm⟩
        · cases hj
      have hnc : ∀ j u, news[j]? = some u → w.cell? (a.add j) = some u := fun j u hj => by
        obtain ⟨hlt, rfl⟩ := hnj j u hj
        obtain ⟨a', ea, q, _, _⟩ := hcc 0 j (by omega) hlt
        cases ea
        rw [Nat.zero_mul, Nat.zero_add] at q
        exact q
      have hn1 : ∀ u ∈ news, u.oneCell' = true := fun u hu => by
        obtain ⟨j, hj⟩ := List.mem_iff_getElem?.1 hu
        obtain ⟨hlt, rfl⟩ := hnj j u hj
        obtain ⟨a', ea, _, q, _⟩ := hcc 0 j (by omega) hlt
        exact q
      have hnr : ¬ rw a.block := by
        obtain ⟨a', ea, _, _, q⟩ := hcc 0 0 (by omega) (by omega)
        cases ea
        exact q
      have hnR : ∀ j u, news[j]? = some u → RelC w rw u (h 0 j) := fun j u hj => by
        obtain ⟨hlt, rfl⟩ := hnj j u hj
        exact hcr 0 j (by omega) hlt
      have hcell0 : w.cell? (a.add 0) = some (g2 0 0) := hnc 0 _ (by rw [hnews]; rfl)
      obtain ⟨ca0, ta, ma, hA, hA0⟩ : ∃ ca0 ta ma, w.heap[a.block]? = some (.cells ca0 ta ma) ∧ 0 < ca0.size := by
        have hb : (a.add 0).block = a.block := block_add a 0
        unfold World.cell? at hcell0
        rw [hb] at hcell0
        split at hcell0
        · rename_i c0 e0 m0 heq
          refine ⟨c0, e0, m0, heq, ?_⟩
          split at hcell0
          · cases hcell0
          · have := (Array.getElem?_eq_some_iff.1 hcell0).1
            omega
        · cases hcell0
      have hab : a.block < w.heap.size := (Array.getElem?_eq_some_iff.1 hA).1
      have fin : ∀ (w' : World) (v' : Value) (xs' : List Value), ownsR w' 30 8 v' (n + 1) xs' → xs' = xs.take (k * 8) ++ news ++ xs.drop (k * 8) → w.grownBy w' (blkNo v) → (∀ b, blkNo v' = some b → blkNo v = some b ∨ w.heap.size ≤ b) →
          ∃ v'' xs'', Ending.returned v' = .returned v'' ∧ ownsR w' 30 8 v'' (n + 1) xs'' ∧ (∀ u ∈ xs'', one u) ∧ w.grownBy w' (blkNo v) ∧ (∀ b, blkNo v'' = some b → blkNo v = some b ∨ w.heap.size ≤ b) ∧
            ∀ (rw' : Nat → Prop), (∀ b, b < w.heap.size → rw' b → rw b) → ∀ i j u, i < n + 1 → j < 8 → xs''[i * 8 + j]? = some u → RelC w' rw' u (insS g k h i j) := by
        intro w' v' xs' q1 q2 q3 q4
        have hkeep : Keep rw w w' := ⟨q3.os, q3.tape, q3.output, q3.size, fun b hb hr => q3.block b hb fun e => hr (hv b e.symm)⟩
        refine ⟨v', xs', rfl, q1, fun u hu => ?_, q3, q4, fun rw' hrw' i j u hi' hj hu => (ins_rel (s := 8) (by omega) hkn hown.1 hnl hrel hnR hi' hj (q2 ▸ hu)).mono hkeep hrw'⟩
        rw [q2] at hu
        rcases List.mem_append.1 hu with hu | hu
        · rcases List.mem_append.1 hu with hu | hu
          · exact hone u (List.mem_of_mem_take hu)
          · exact hn1 u hu
        · exact hone u (List.mem_of_mem_drop hu)
      rcases Nat.lt_or_ge k n with hlt | hge
      · have hown2 := hown
        rcases hown.2 with ⟨_, h0⟩ | ⟨g0, cap, cur, rfl, hc0, hC, hnc0, hcm, hcs, htk⟩
        · omega
        · have hne : a.block ≠ g0 := fun e => hnr (e ▸ hv g0 (blkNo_slice hc0))
          rcases Nat.lt_or_ge cap (n + 1) with hf | hroom
          · obtain rfl : cap = n := by omega
            refine (insE_grow w g0 cap k cur a c news hlt hn0 hC hcs (by rw [htk]; exact hone) hnl hnc hn1 hab).mono fun en w' hq => ?_
            obtain ⟨G, cur2, rfl, p1, p2, p3, p4, p5, p6⟩ := hq
            rw [htk] at p5
            refine fin w' _ _ ⟨?_, .inr ⟨w.heap.size, G, cur2, rfl, by omega, p3, p1, p2, p4, rfl⟩⟩ p5 ⟨p6.os, p6.tape, p6.output, p6.size, fun b hb _ => p6.block b hb (by simp)⟩ fun b hb => .inr ?_
            · rw [List.length_take, Array.length_toList, p4]
              have := Nat.mul_le_mul_right 8 p1
              omega
            · rw [blkNo_slice (by omega)] at hb
              simp only [Option.some.injEq] at hb
              omega
          · obtain ⟨mk, hh, hmk⟩ := hC
            have hplain : w.heap[g0]? = some (.cells cur 30 (0, 0)) := by
              rcases hmk with rfl | ⟨_, h1⟩
              · exact hh
              · exact absurd h1 (by decide)
            refine (insE_mid w g0 n cap k cur a c news hlt hroom hcm ⟨mk, hh, hmk⟩ hcs (by rw [htk]; exact hone) hnl hnc hn1 hne (fun lb cb => by
              rw [run_callFunc_extern Tryz.func89 (by kernel_rfl) (by kernel_rfl) (by kernel_rfl) (e := Extern.SlicesOverlaps.overlaps #[40, 40] #[4]) (by kernel_rfl),
                apart_plain w 40 4 30 Tryz.underlying40 8 (fun w => by simp [sizeOf, typeInfo, hi, his]) a ⟨g0, (k + 1) * 8, none⟩ 1 c lb cb hne hA hA0 hplain]
              rfl)).mono fun en w' hq => ?_
            obtain ⟨rfl, cur2, p1, p2, p3, p4⟩ := hq
            rw [htk] at p3
            refine fin w' _ _ ⟨?_, .inr ⟨g0, cap, cur2, rfl, hc0, p1, hroom, hcm, p2.trans hcs, rfl⟩⟩ p3 (by rw [blkNo_slice hc0]; exact p4) fun b hb => .inl ?_
            · rw [List.length_take, Array.length_toList, p2, hcs]
              have := Nat.mul_le_mul_right 8 hroom
              omega
            · rw [blkNo_slice hc0] at hb ⊢
              exact hb
      · obtain rfl : k = n := by omega
        obtain ⟨a0, cap, rfl, hcap⟩ : ∃ a0 cap, v = .slice a0 k cap ∧ k ≤ cap := by
          rcases hown.2 with ⟨⟨a0, rfl⟩, h0⟩ | ⟨g0, cap, cur, rfl, hc0, hC, hnc0, _⟩
          · exact ⟨a0, 0, by rw [h0], by omega⟩
          · exact ⟨_, cap, rfl, hnc0⟩
        have hall : ∀ ty, ∃ v' w', (Builtin.append_ #[40, 40] ty #[.slice a0 k cap, .slice (some a) 1 c]).run Tryz.prog w = .ok v' w' ∧ ownsR w' 30 8 v' (k + 1) (xs ++ news) ∧ w.grownBy w' (blkNo (.slice a0 k cap)) ∧
            (∀ b, blkNo v' = some b → blkNo (.slice a0 k cap) = some b ∨ w.heap.size ≤ b) := fun ty =>
          run_append_src (P := Tryz.prog) (ty := ty) Tryz.underlying40 hi hz0 his rfl hzs (by omega) hown (m := 1) (cp := c) (by omega) (fun _ => ⟨a, rfl, hnc⟩) hn1 (by omega) (Nat.le_trans (Nat.mul_le_mul (show k + 1 ≤ 1000001 by omega) hib) (by decide))
        obtain ⟨v', w', h1, h2, h3, h4⟩ := hall 0
        have hty : ∀ ty, (Builtin.append_ #[40, 40] ty #[.slice a0 k cap, .slice (some a) 1 c]).run Tryz.prog w = .ok v' w' := fun ty => h1
        refine (insE_end w a0 k cap hcap hn0 a c v' w' hty).mono fun en W hq => ?_
        obtain ⟨rfl, rfl⟩ := hq
        have hxl := hown.1
        exact fin W v' (xs ++ news) h2 (by rw [List.take_of_length_le (by omega), List.drop_of_length_le (by omega), List.append_nil]) h3 h4
end Go.Proofs

set_option linter.unusedVariables false
set_option linter.unusedSimpArgs false
set_option maxRecDepth 100000
set_option maxHeartbeats 8000000
namespace Go.Vd
open Go.Proofs
/-- slices.Insert of one entry. -/
noncomputable def insX : Ar → Xt := fun A => { meth := fun _ _ => none, wt := fun f e k n g rest => bif Nat.beq f 64 && (Nat.beq e 30 && Nat.beq k 8) then (match rest with
  | [.int .i64 i, .slc 1 8 h] => some (some (A.tp fun _ => (0 ≤ i ∧ i ≤ (n : Int)) ∧ n ≤ 1000000), A.nadd n 1, A.cat (A.toNat i) g (A.cat 1 h (A.shift g (A.toNat i))))
  | _ => none) else none }
theorem insS_cat (g : Nat → Nat → SV) (k : Nat) (h : Nat → Nat → SV) : insS g k h = catS k g (catS 1 h (shiftS g k)) := by
  funext a b
  unfold insS catS shiftS
  by_cases h1 : a < k
  · rw [if_pos h1, if_pos h1]
  · rw [if_neg h1, if_neg h1]
    by_cases h2 : a = k
    · rw [if_pos h2, if_pos (by omega), show a - k = 0 by omega]
    · rw [if_neg h2, if_neg (by omega), show k + (a - k - 1) = a - 1 by omega]
theorem insX_ok : XtOk Tryz.prog gl0 (insX std) := by
  refine ⟨(fun t name f h => by cases h), ?_⟩
  intro f e k n g rest p n' g' hw hp
  unfold insX at hw
  simp only at hw
  cases hb : (Nat.beq f 64 && (Nat.beq e 30 && Nat.beq k 8)) <;> rw [hb] at hw <;> simp only [cond_true, cond_false, reduceCtorEq] at hw
  simp only [Bool.and_eq_true] at hb
  obtain rfl := Nat.eq_of_beq_eq_true hb.1
  obtain rfl := Nat.eq_of_beq_eq_true hb.2.1
  obtain rfl := Nat.eq_of_beq_eq_true hb.2.2
  split at hw
  · simp only [Option.some.injEq, Prod.mk.injEq] at hw
    obtain ⟨rfl, rfl, rfl⟩ := hw
    rename_i i h
    have h2 := insE_ok gl0 n g i h hp.1 hp.2
    rw [insS_cat] at h2
    exact ⟨⟨_, Tryz.func64, rfl, by decide⟩, h2⟩
  · cases hw
def rCloneE (A : Ar) (L : Unit → List Ent) : SV := .frs 30 8 (A.tn fun _ => (L ()).length) (rowF eE E0 A L)
attribute [local irreducible] vc
theorem good_CloneE (L : List Ent) (hL : L.length ≤ 1000000) : GoodP Tryz.prog gl0 57 [rowS eE E0 8 std fun _ => L] (rCloneE std fun _ => L) := by
  refine fn_sound' (T := seatT) (G := noC) (X := noX) seatT_ok noC_ok noX_ok noI_ok mixed Tryz.func57 (.fresh 30 8) (fun A => [rowS eE E0 8 A fun _ => L]) (fun A => rCloneE A fun _ => L) fun A hA => ?_
  cbv
  repeat' (first | with_reducible exact True.intro | with_reducible exact dr_ok hA (by kernel_rfl) | with_reducible refine And.intro ?_ ?_ | (intro hc; cbv))
  all_goals (subst hA; simp [std_add, std_sub, std_mul, std_quo, std_rem, std_band, std_bor, std_bxor, std_shl, std_shr, std_eq, std_ne, std_lt, std_le, std_conv, std_not, std_beq, std_bne, std_ite, std_want, std_and2, std_sadd, std_seq, std_sne, std_slt, std_sle, std_sgt, std_sge, std_slen, std_sget, std_scut, std_ofNat, std_toNat, std_nsub, std_nadd, std_lenOf, std_nz, std_nneg, std_inb, std_upto, std_slt63, std_grow, std_imp, std_impN, std_tr, std_tb, std_ti, std_ts, std_tn, std_tp, std_nmin, std_nset, std_fset, std_makes, std_room, std_zeros, std_nilq, std_notq, std_eqi, std_eqn, std_eqb, std_eqs, std_eqv, std_cat, std_lst, std_rset, std_rcopy, std_shift, std_eqr, std_strOf, std_bytesOf, std_isB, std_zOf, zOf_int, std_isI, isI_int, std_getL, std_nmul, std_sOf, sOf_str, std_isS, isS_str, std_fadd, std_fsub, std_fav, std_fsv, std_feq, std_fne, std_flt, std_fle, std_fgt, std_fge, std_fOf, std_fTo, std_fTv] at *)
  all_goals first
    | omega
    | (have hq := hc (by assumption); rw [hq]; rfl)
    | (have hq := hc (by assumption); rw [hq]; intro i j hi; exact absurd hi (by simp))
    | (apply eqr_of; (exact (Reps.nil.cat (Reps.lit L)).congr rfl (List.nil_append L)); (first | (simp; done) | omega | rfl); rfl)
    | trace_state
noncomputable def c_CloneE : Ct := fun A args => match args with
  | [.slc n 8 f] => some (some (A.tp fun _ => isRow eE E0 8 n f ∧ n ≤ 1000000), rCloneE A fun _ => lstOf eE E0 8 n f)
  | _ => none
noncomputable def gs4 : Ar → Pu := addC 57 c_CloneE (gs3)
theorem gs4_ok : PuOk Tryz.prog gl0 (gs4 std) := by
  refine addC_ok (gs3_ok) ⟨_, Tryz.func57, rfl, by decide⟩ ?_
  · intro args p r h hp
    unfold c_CloneE at h
    split at h <;> cases h
    exact good_sv (good_CloneE _ (by rw [lstOf_length hp.1]; exact hp.2)) ⟨hp.1.sv, trivial⟩
/-- An entry's row with one more; the number that tells how it went. -/
def insL (L : List Ent) (e : Ent) : List Ent := if (shR L && eR e) = true then (if has L e.s e.r = true then L else if L.length = 128 then L else L.take (pos L e.s e.r) ++ [e] ++ L.drop (pos L e.s e.r)) else L
def insC (L : List Ent) (e : Ent) : Int := if (shR L && eR e) = true then (if has L e.s e.r = true then 6 else if L.length = 128 then 7 else 0) else 1
theorem nb_t {b : Bool} (h : (!b) = false) : b = true := by cases b <;> simp at h ⊢
theorem insL_1 {L : List Ent} {e : Ent} (h : (bif shR L then eR e else false) = false) : insL L e = L ∧ insC L e = 1 := by
  have h2 : ¬(shR L && eR e) = true := by cases h1 : shR L <;> simp [h1] at h ⊢; exact h
  unfold insL insC
  rw [if_neg h2, if_neg h2]
  exact ⟨rfl, rfl⟩
theorem insR {L : List Ent} {e : Ent} (h : (bif shR L then eR e else false) = true) : (shR L && eR e) = true := by
  cases h1 : shR L <;> simp [h1] at h ⊢; exact h
theorem insL_6 {L : List Ent} {e : Ent} (h : (bif shR L then eR e else false) = true) (h2 : has L e.s e.r = true) : insL L e = L ∧ insC L e = 6 := by
  unfold insL insC
  rw [if_pos (insR h), if_pos (insR h), if_pos h2, if_pos h2]
  exact ⟨rfl, rfl⟩
theorem insL_7 {L : List Ent} {e : Ent} (h : (bif shR L then eR e else false) = true) (h2 : has L e.s e.r = false) (h3 : L.length = 128) : insL L e = L ∧ insC L e = 7 := by
  unfold insL insC
  rw [if_pos (insR h), if_pos (insR h), h2]
  simp [h3]
theorem insL_0 {L : List Ent} {e : Ent} (h : (bif shR L then eR e else false) = true) (h2 : has L e.s e.r = false) (h3 : ¬L.length = 128) : insL L e = L.take (pos L e.s e.r) ++ [e] ++ L.drop (pos L e.s e.r) ∧ insC L e = 0 := by
  unfold insL insC
  rw [if_pos (insR h), if_pos (insR h), h2]
  simp [h3]
theorem shR_asc {L : List Ent} (h : shR L = true) : ascB L = true ∧ L.length ≤ 128 := by
  simp only [shR, Bool.and_eq_true, decide_eq_true_eq] at h
  exact ⟨h.2, h.1⟩
theorem ins_eqr {L M : List Ent} {e : Ent} {p n : Nat} (hp : p ≤ L.length) (hn : n = L.length + 1) (hM : M = L.take p ++ [e] ++ L.drop p) :
    eqrS n 8 (catS p (rowF eE E0 std fun _ => L) (catS 1 (lstS [[SV.int .u32 e.s, SV.str e.r, SV.int .i64 e.st, SV.str e.pan, SV.int .u64 e.am, SV.str e.code, SV.int .i64 e.tr, SV.int .i64 e.ca]]) (shiftS (rowF eE E0 std fun _ => L) p))) (rowF eE E0 std fun _ => M) := by
  have h := (Reps.cut (enc := eE) (d := E0) (k := 8) L p hp).cat ((Reps.one (enc := eE) (d := E0) (cell_eE e)).cat ((Reps.lit (enc := eE) (d := E0) (k := 8) L).shift (m := L.length - p) p (by omega)))
  refine eqr_of h (by omega) ?_
  rw [hM, List.take_of_length_le (l := L.drop p) (by rw [List.length_drop]; exact Nat.le_refl _), List.append_assoc]
theorem good_shInsert (L : List Ent) (s st am tr ca : Int) (r pan code : List UInt8) (hL : L.length ≤ 1000000) (hS : ∀ i, enS (L.getD i E0)) (hp : pan.length ≤ 100000) (hcc : code.length ≤ 1000000) : GoodP Tryz.prog gl0 37 [rowS eE E0 8 std fun _ => L, .agg [.int .u32 s, .str r, .int .i64 st, .str pan, .int .u64 am, .str code, .int .i64 tr, .int .i64 ca]] (.tup [rowS eE E0 8 std fun _ => insL L ⟨s, r, st, pan, am, code, tr, ca⟩, .int .i64 (std.ti fun _ => insC L ⟨s, r, st, pan, am, code, tr, ca⟩)]) := by
  refine fn_sound' (T := seatT) (G := gs4) (X := insX) seatT_ok gs4_ok insX_ok noI_ok mixed Tryz.func37 (.none) (fun A => [rowS eE E0 8 A fun _ => L, .agg [.int .u32 s, .str r, .int .i64 st, .str pan, .int .u64 am, .str code, .int .i64 tr, .int .i64 ca]]) (fun A => .tup [rowS eE E0 8 A fun _ => insL L ⟨s, r, st, pan, am, code, tr, ca⟩, .int .i64 (A.ti fun _ => insC L ⟨s, r, st, pan, am, code, tr, ca⟩)]) fun A hA => ?_
  cbv
  repeat' (first | with_reducible exact True.intro | with_reducible exact dr_ok hA (by kernel_rfl) | with_reducible refine And.intro ?_ ?_ | (intro hc; cbv))
  all_goals (subst hA; simp only [std_add, std_sub, std_mul, std_quo, std_rem, std_band, std_bor, std_bxor, std_shl, std_shr, std_eq, std_ne, std_lt, std_le, std_conv, std_not, std_beq, std_bne, std_ite, std_want, std_and2, std_sadd, std_seq, std_sne, std_slt, std_sle, std_sgt, std_sge, std_slen, std_sget, std_scut, std_ofNat, std_toNat, std_nsub, std_nadd, std_lenOf, std_nz, std_nneg, std_inb, std_upto, std_slt63, std_grow, std_imp, std_impN, std_tr, std_tb, std_ti, std_ts, std_tn, std_tp, std_nmin, std_nset, std_fset, std_makes, std_room, std_zeros, std_nilq, std_notq, std_eqi, std_eqn, std_eqb, std_eqs, std_eqv, std_cat, std_lst, std_rset, std_rcopy, std_shift, std_eqr, std_strOf, std_bytesOf, std_isB, std_zOf, zOf_int, std_isI, isI_int, std_getL, std_nmul, std_sOf, sOf_str, std_isS, isS_str, std_fadd, std_fsub, std_fav, std_fsv, std_feq, std_fne, std_flt, std_fle, std_fgt, std_fge, std_fOf, std_fTo, std_fTv, lstOf_V, isRow_V] at *)
  all_goals first
    | exact ⟨isRow_V L, hL⟩
    | exact ⟨trivial, hL⟩
    | exact ⟨isRow_V L, hL, hS⟩
    | exact ⟨trivial, hL, hS⟩
    | (intro h; exact ⟨h, hp, hcc⟩)
    | (intro h; simp only [Bool.true_and, Bool.beq_eq_decide_eq, decide_eq_true_eq]; exact h)
    | (have hr : (bif shR L then eR ⟨s, r, st, pan, am, code, tr, ca⟩ else false) = false := by rw [Bool.not_eq_true'] at hc; exact hc
       have h1 := insL_1 hr
       first
         | (rw [h1.1]; done)
         | (rw [h1.1]; exact (Reps.lit _).eqr)
         | (rw [h1.2]; done))
    | (have hq : (!bif shR L then eR ⟨s, r, st, pan, am, code, tr, ca⟩ else false) = false := by assumption
       have hr := nb_t hq
       have hs : shR L = true := by cases h : shR L <;> simp [h] at hr ⊢
       have h0 := shR_asc hs
       first
         | exact ⟨isRow_V L, hL, h0.1⟩
         | exact ⟨trivial, hL, h0.1⟩
         | (have h2 : has L s r = true := by assumption
            have h1 := insL_6 (e := ⟨s, r, st, pan, am, code, tr, ca⟩) hr h2
            first
              | (rw [h1.1]; done)
              | (rw [h1.1]; exact (Reps.lit _).eqr)
              | (rw [h1.2]; done))
         | (have h2 : has L s r = false := by assumption
            have h3 : ((L.length : Int) == 128) = true := by assumption
            have h1 := insL_7 (e := ⟨s, r, st, pan, am, code, tr, ca⟩) hr h2 (by simp at h3; omega)
            first
              | (rw [h1.1]; done)
              | (rw [h1.1]; exact (Reps.lit _).eqr)
              | (rw [h1.2]; done))
         | (have h2 : has L s r = false := by assumption
            have h3 : ((L.length : Int) == 128) = false := by assumption
            have h1 := insL_0 (e := ⟨s, r, st, pan, am, code, tr, ca⟩) hr h2 (by simp at h3; omega)
            have hpl := pos_le L s r
            first
              | exact ⟨⟨Int.natCast_nonneg _, Int.ofNat_le.2 hpl⟩, hL⟩
              | (rw [h1.1]; simp; omega)
              | (rw [h1.2]; done)
              | (simp only [Int.toNat_natCast]; exact ins_eqr (e := ⟨s, r, st, pan, am, code, tr, ca⟩) hpl (by rw [h1.1]; simp; omega) h1.1)
              | trace_state)
         | trace_state)
    | trace_state
noncomputable def c_shInsert : Ct := fun A args => match args with
  | [.slc n 8 f, .agg [.int .u32 s, .str r, .int .i64 st, .str pan, .int .u64 am, .str code, .int .i64 tr, .int .i64 ca]] => some (some (A.tp fun _ => (isRow eE E0 8 n f ∧ n ≤ 1000000 ∧ ∀ i, enS ((lstOf eE E0 8 n f).getD i E0)) ∧ pan.length ≤ 100000 ∧ code.length ≤ 1000000), .tup [rowS eE E0 8 A fun _ => insL (lstOf eE E0 8 n f) ⟨s, r, st, pan, am, code, tr, ca⟩, .int .i64 (A.ti fun _ => insC (lstOf eE E0 8 n f) ⟨s, r, st, pan, am, code, tr, ca⟩)])
  | _ => none
noncomputable def gs5 : Ar → Pu := addC 37 c_shInsert (gs4)
theorem gs5_ok : PuOk Tryz.prog gl0 (gs5 std) := by
  refine addC_ok (gs4_ok) ⟨_, Tryz.func37, rfl, by decide⟩ ?_
  · intro args p r h hp
    unfold c_shInsert at h
    split at h <;> cases h
    exact good_sv (good_shInsert _ _ _ _ _ _ _ _ _ (by rw [lstOf_length hp.1.1]; exact hp.1.2.1) hp.1.2.2 hp.2.1 hp.2.2) ⟨hp.1.1.sv, ⟨_, rfl, rfl, rfl, rfl, rfl, rfl, rfl, rfl, rfl, trivial⟩, trivial⟩
end Go.Vd

set_option linter.unusedVariables false
set_option linter.unusedSimpArgs false
set_option maxRecDepth 100000
set_option maxHeartbeats 8000000
namespace Go.Vd
open Go.Proofs
theorem pos_lt : ∀ {L : List Ent} {s : Int} {r : List UInt8} {t : Nat}, t < pos L s r → ltK s r (L.getD t E0) = true
  | [], s, r, t, h => by simp [pos] at h
  | e :: L, s, r, t, h => by
    unfold pos at h
    rw [List.takeWhile_cons] at h
    by_cases h1 : ltK s r e = true
    · rw [if_pos h1, List.length_cons] at h
      cases t with
      | zero => exact h1
      | succ t => exact pos_lt (L := L) (by unfold pos; omega)
    · rw [if_neg h1] at h; simp at h
theorem pos_ge : ∀ {L : List Ent} {s : Int} {r : List UInt8}, pos L s r < L.length → ltK s r (L.getD (pos L s r) E0) = false
  | [], s, r, h => by simp at h
  | e :: L, s, r, h => by
    unfold pos at h ⊢
    rw [List.takeWhile_cons] at h ⊢
    by_cases h1 : ltK s r e = true
    · rw [if_pos h1, List.length_cons] at h ⊢
      exact pos_ge (L := L) (by unfold pos; rw [List.length_cons] at h; omega)
    · rw [if_neg h1]
      simpa using h1
theorem pos_far {L : List Ent} (hasc : ascP L) {s : Int} {r : List UInt8} {t : Nat} (h1 : pos L s r ≤ t) (h2 : t < L.length) : ltK s r (L.getD t E0) = false := by
  cases hq : ltK s r (L.getD t E0)
  · rfl
  · have := ltK_mono hasc h1 h2 hq
    rw [pos_ge (by omega)] at this
    cases this
theorem has_pos {L : List Ent} (hasc : ascP L) {s : Int} {r : List UInt8} (h : has L s r = true) : pos L s r < L.length ∧ kE s r (L.getD (pos L s r) E0) = true :=
  (has_at hasc (fun _ ht => pos_lt ht) (fun _ h1 h2 => pos_far hasc h1 h2)).1 h
def swL (L : List Ent) (z : Int) (e : Ent) : List Ent := if (shR L && eR e) = true then (if has L e.s e.r = true then (if (L.getD (pos L e.s e.r) E0).st = z then L.set (pos L e.s e.r) e else L) else L) else L
def swC (L : List Ent) (z : Int) (e : Ent) : Int := if (shR L && eR e) = true then (if has L e.s e.r = true then (if (L.getD (pos L e.s e.r) E0).st = z then 0 else 8) else 5) else 1
theorem swL_1 {L : List Ent} {z : Int} {e : Ent} (h : (bif shR L then eR e else false) = false) : swL L z e = L ∧ swC L z e = 1 := by
  have h2 : ¬(shR L && eR e) = true := by cases h1 : shR L <;> simp [h1] at h ⊢; exact h
  unfold swL swC
  rw [if_neg h2, if_neg h2]
  exact ⟨rfl, rfl⟩
theorem swL_5 {L : List Ent} {z : Int} {e : Ent} (h : (bif shR L then eR e else false) = true) (h2 : has L e.s e.r = false) : swL L z e = L ∧ swC L z e = 5 := by
  unfold swL swC
  rw [if_pos (insR h), if_pos (insR h), h2]
  simp
theorem swL_8 {L : List Ent} {z : Int} {e : Ent} (h : (bif shR L then eR e else false) = true) (h2 : has L e.s e.r = true) (h3 : ¬(L.getD (pos L e.s e.r) E0).st = z) : swL L z e = L ∧ swC L z e = 8 := by
  unfold swL swC
  rw [if_pos (insR h), if_pos (insR h), if_pos h2, if_pos h2, if_neg h3, if_neg h3]
  exact ⟨rfl, rfl⟩
theorem swL_0 {L : List Ent} {z : Int} {e : Ent} (h : (bif shR L then eR e else false) = true) (h2 : has L e.s e.r = true) (h3 : (L.getD (pos L e.s e.r) E0).st = z) : swL L z e = L.set (pos L e.s e.r) e ∧ swC L z e = 0 := by
  unfold swL swC
  rw [if_pos (insR h), if_pos (insR h), if_pos h2, if_pos h2, if_pos h3, if_pos h3]
  exact ⟨rfl, rfl⟩
theorem nb_f {b : Bool} (h : (!b) = true) : b = false := by cases b <;> simp at h ⊢
attribute [local irreducible] vc
theorem good_shSwap (L : List Ent) (z s st am tr ca : Int) (r pan code : List UInt8) (hL : L.length ≤ 1000000) (hS : ∀ i, enS (L.getD i E0)) (hp : pan.length ≤ 100000) (hcc : code.length ≤ 1000000) : GoodP Tryz.prog gl0 41 [rowS eE E0 8 std fun _ => L, .int .i64 z, .agg [.int .u32 s, .str r, .int .i64 st, .str pan, .int .u64 am, .str code, .int .i64 tr, .int .i64 ca]] (.tup [rowS eE E0 8 std fun _ => swL L z ⟨s, r, st, pan, am, code, tr, ca⟩, .int .i64 (std.ti fun _ => swC L z ⟨s, r, st, pan, am, code, tr, ca⟩)]) := by
  refine fn_sound' (T := seatT) (G := gs4) (X := noX) seatT_ok gs4_ok noX_ok noI_ok mixed Tryz.func41 (.none) (fun A => [rowS eE E0 8 A fun _ => L, .int .i64 z, .agg [.int .u32 s, .str r, .int .i64 st, .str pan, .int .u64 am, .str code, .int .i64 tr, .int .i64 ca]]) (fun A => .tup [rowS eE E0 8 A fun _ => swL L z ⟨s, r, st, pan, am, code, tr, ca⟩, .int .i64 (A.ti fun _ => swC L z ⟨s, r, st, pan, am, code, tr, ca⟩)]) fun A hA => ?_
  obtain ⟨E, hE⟩ : ∃ E : Ent, E = ⟨s, r, st, pan, am, code, tr, ca⟩ := ⟨_, rfl⟩
  rw [← hE]
  cbv
  repeat' (first | with_reducible exact True.intro | with_reducible exact dr_ok hA (by kernel_rfl) | with_reducible refine And.intro ?_ ?_ | (intro hc; cbv))
  all_goals (subst hA; simp only [std_add, std_sub, std_mul, std_quo, std_rem, std_band, std_bor, std_bxor, std_shl, std_shr, std_eq, std_ne, std_lt, std_le, std_conv, std_not, std_beq, std_bne, std_ite, std_want, std_and2, std_sadd, std_seq, std_sne, std_slt, std_sle, std_sgt, std_sge, std_slen, std_sget, std_scut, std_ofNat, std_toNat, std_nsub, std_nadd, std_lenOf, std_nz, std_nneg, std_inb, std_upto, std_slt63, std_grow, std_imp, std_impN, std_tr, std_tb, std_ti, std_ts, std_tn, std_tp, std_nmin, std_nset, std_fset, std_makes, std_room, std_zeros, std_nilq, std_notq, std_eqi, std_eqn, std_eqb, std_eqs, std_eqv, std_cat, std_lst, std_rset, std_rcopy, std_shift, std_eqr, std_strOf, std_bytesOf, std_isB, std_zOf, zOf_int, std_isI, isI_int, std_getL, std_nmul, std_sOf, sOf_str, std_isS, isS_str, std_fadd, std_fsub, std_fav, std_fsv, std_feq, std_fne, std_flt, std_fle, std_fgt, std_fge, std_fOf, std_fTo, std_fTv, lstOf_V, isRow_V] at *)
  all_goals first
    | exact ⟨isRow_V L, hL⟩
    | exact ⟨trivial, hL⟩
    | exact ⟨isRow_V L, hL, hS⟩
    | exact ⟨trivial, hL, hS⟩
    | (intro h; exact ⟨h, hp, hcc⟩)
    | (intro h; simp only [Bool.true_and, Bool.beq_eq_decide_eq, decide_eq_true_eq]; exact h)
    | (have hr : (bif shR L then eR ⟨s, r, st, pan, am, code, tr, ca⟩ else false) = false := nb_f hc
       rw [← hE] at hr
       have h1 := swL_1 (z := z) hr
       first
         | (rw [h1.1]; done)
         | (rw [h1.1]; exact (Reps.lit _).eqr)
         | (rw [h1.2]; done))
    | (have hq : (!bif shR L then eR ⟨s, r, st, pan, am, code, tr, ca⟩ else false) = false := by assumption
       have hr := nb_t hq
       have hs : shR L = true := by cases h : shR L <;> simp [h] at hr ⊢
       have h0 := shR_asc hs
       rw [← hE] at hr
       have eS : E.s = s := by rw [hE]
       have eR' : E.r = r := by rw [hE]
       first
         | exact ⟨isRow_V L, hL, h0.1⟩
         | exact ⟨trivial, hL, h0.1⟩
         | (have h2 : (!has L s r) = true := by assumption
            have h1 := swL_5 (z := z) hr (by rw [eS, eR']; exact nb_f h2)
            first
              | (rw [h1.1]; done)
              | (rw [h1.1]; exact (Reps.lit _).eqr)
              | (rw [h1.2]; done))
         | (have h2 : (!has L s r) = false := by assumption
            have h3 := has_pos ((ascB_iff L).1 h0.1) (nb_t h2)
            first
              | exact ⟨Int.natCast_nonneg _, Int.ofNat_lt.2 h3.1⟩
              | (have h4 : ((L.getD ((pos L s r : Nat) : Int).toNat { s := 0, r := [], st := 0, pan := [], am := 0, code := [], tr := 0, ca := 0 }).st != z) = true := by assumption
                 have h1 := swL_8 (z := z) hr (by rw [eS, eR']; exact nb_t h2) (by rw [eS, eR']; rw [Int.toNat_natCast] at h4; exact (bne_iff_ne).1 h4)
                 first
                   | (rw [h1.1]; done)
                   | (rw [h1.1]; exact (Reps.lit _).eqr)
                   | (rw [h1.2]; done))
              | (have h4 : ((L.getD ((pos L s r : Nat) : Int).toNat { s := 0, r := [], st := 0, pan := [], am := 0, code := [], tr := 0, ca := 0 }).st != z) = false := by assumption
                 have h1 := swL_0 (z := z) hr (by rw [eS, eR']; exact nb_t h2) (by rw [eS, eR']; rw [Int.toNat_natCast] at h4; exact bne_eq_false_iff_eq.1 h4)
                 rw [eS, eR'] at h1
                 first
                   | (rw [h1.1]; simp; done)
                   | (rw [h1.2]; done)
                   | (rw [Int.toNat_natCast]
                      exact eqr_of ((Reps.lit L).rset' (i := pos L s r) h3.1 ⟨s, r, st, pan, am, code, tr, ca⟩ rfl (cell_eE ⟨s, r, st, pan, am, code, tr, ca⟩)) (by rw [h1.1]; simp) (by rw [h1.1, hE]))
                   | trace_state)
              | trace_state)
         | trace_state)
    | trace_state
noncomputable def c_shSwap : Ct := fun A args => match args with
  | [.slc n 8 f, .int .i64 z, .agg [.int .u32 s, .str r, .int .i64 st, .str pan, .int .u64 am, .str code, .int .i64 tr, .int .i64 ca]] => some (some (A.tp fun _ => (isRow eE E0 8 n f ∧ n ≤ 1000000 ∧ ∀ i, enS ((lstOf eE E0 8 n f).getD i E0)) ∧ pan.length ≤ 100000 ∧ code.length ≤ 1000000), .tup [rowS eE E0 8 A fun _ => swL (lstOf eE E0 8 n f) z ⟨s, r, st, pan, am, code, tr, ca⟩, .int .i64 (A.ti fun _ => swC (lstOf eE E0 8 n f) z ⟨s, r, st, pan, am, code, tr, ca⟩)])
  | _ => none
def rmL (L : List Ent) (s : Int) (r : List UInt8) : List Ent := if shR L = true then (if has L s r = true then L.take (pos L s r) ++ L.drop (pos L s r + 1) else L) else L
def rmC (L : List Ent) (s : Int) (r : List UInt8) : Int := if shR L = true then (if has L s r = true then 0 else 5) else 1
theorem rm_1 {L : List Ent} {s : Int} {r : List UInt8} (h : shR L = false) : rmL L s r = L ∧ rmC L s r = 1 := by
  unfold rmL rmC; rw [h]; simp
theorem rm_5 {L : List Ent} {s : Int} {r : List UInt8} (h : shR L = true) (h2 : has L s r = false) : rmL L s r = L ∧ rmC L s r = 5 := by
  unfold rmL rmC; rw [h, h2]; simp
theorem rm_0 {L : List Ent} {s : Int} {r : List UInt8} (h : shR L = true) (h2 : has L s r = true) : rmL L s r = L.take (pos L s r) ++ L.drop (pos L s r + 1) ∧ rmC L s r = 0 := by
  unfold rmL rmC; rw [h, h2]; simp
theorem rm_take (L : List Ent) {p : Nat} (hp : p < L.length) : L.take p ++ L.drop (p + 1) = (L.take p ++ L.drop (p + 1) ++ L.drop (p + (L.length - (p + 1)))).take (p + (L.length - (p + 1))) := by
  have l : (L.take p ++ L.drop (p + 1)).length = p + (L.length - (p + 1)) := by rw [List.length_append, List.length_take, List.length_drop]; omega
  rw [List.take_append, l, Nat.sub_self, List.take_zero, List.append_nil, List.take_of_length_le (l := L.take p ++ L.drop (p + 1)) (by omega)]
theorem cut_out {N a m : Nat} {f z : Nat → Nat → SV} {R M : List Ent} (h : Reps eE E0 8 N f R) (ha : a ≤ N) (hM : M = R.take a) : eqrS a 8 (shiftS (rcopyS f a m z) 0) (rowF eE E0 std fun _ => M) := by
  intro i j hi hj
  show Ceq (if a ≤ 0 + i ∧ 0 + i < a + m then z (0 + i - a) j else f (0 + i) j) _
  rw [if_neg (by omega), Nat.zero_add]
  refine (h.2 i j (by omega) hj).trans (.of_eq ?_)
  rw [hM]
  simp [rowF, List.getD_eq_getElem?_getD, List.getElem?_take_of_lt hi]
theorem rm_reps (L : List Ent) {p : Nat} (hp : p < L.length) : Reps eE E0 8 L.length (rcopyS (rowF eE E0 std fun _ => L) p (L.length - (p + 1)) (shiftS (rowF eE E0 std fun _ => L) (p + 1))) (L.take p ++ L.drop (p + 1) ++ L.drop (p + (L.length - (p + 1)))) := by
  have h := (Reps.lit (enc := eE) (d := E0) (k := 8) L).rcopy ((Reps.lit (enc := eE) (d := E0) (k := 8) L).shift (m := L.length - (p + 1)) (p + 1) (by omega)) p (by omega)
  rw [List.take_of_length_le (l := L.drop (p + 1)) (by rw [List.length_drop]; exact Nat.le_refl _)] at h
  exact h
noncomputable def iS5 : Nat → Option Func := addI 69 Tryz.f69 noI
theorem iS5_ok : InOk Tryz.prog iS5 := addI_ok noI_ok Tryz.func69 (by kernel_rfl)
theorem good_shRemove (L : List Ent) (s : Int) (r : List UInt8) (hL : L.length ≤ 1000000) (hS : ∀ i, enS (L.getD i E0)) : GoodP Tryz.prog gl0 43 [rowS eE E0 8 std fun _ => L, .agg [.int .u32 s, .str r]] (.tup [rowS eE E0 8 std fun _ => rmL L s r, .int .i64 (std.ti fun _ => rmC L s r)]) := by
  refine fn_sound' (T := seatT) (G := gs4) (X := noX) seatT_ok gs4_ok noX_ok iS5_ok mixed Tryz.func43 (.none) (fun A => [rowS eE E0 8 A fun _ => L, .agg [.int .u32 s, .str r]]) (fun A => .tup [rowS eE E0 8 A fun _ => rmL L s r, .int .i64 (A.ti fun _ => rmC L s r)]) fun A hA => ?_
  cbv
  repeat' (first | with_reducible exact True.intro | with_reducible exact dr_ok hA (by kernel_rfl) | with_reducible refine And.intro ?_ ?_ | (intro hc; cbv))
  all_goals (subst hA; simp only [std_add, std_sub, std_mul, std_quo, std_rem, std_band, std_bor, std_bxor, std_shl, std_shr, std_eq, std_ne, std_lt, std_le, std_conv, std_not, std_beq, std_bne, std_ite, std_want, std_and2, std_sadd, std_seq, std_sne, std_slt, std_sle, std_sgt, std_sge, std_slen, std_sget, std_scut, std_ofNat, std_toNat, std_nsub, std_nadd, std_lenOf, std_nz, std_nneg, std_inb, std_upto, std_slt63, std_grow, std_imp, std_impN, std_tr, std_tb, std_ti, std_ts, std_tn, std_tp, std_nmin, std_nset, std_fset, std_makes, std_room, std_zeros, std_nilq, std_notq, std_eqi, std_eqn, std_eqb, std_eqs, std_eqv, std_cat, std_lst, std_rset, std_rcopy, std_shift, std_eqr, std_strOf, std_bytesOf, std_isB, std_zOf, zOf_int, std_isI, isI_int, std_getL, std_nmul, std_sOf, sOf_str, std_isS, isS_str, std_fadd, std_fsub, std_fav, std_fsv, std_feq, std_fne, std_flt, std_fle, std_fgt, std_fge, std_fOf, std_fTo, std_fTv, lstOf_V, isRow_V] at *)
  all_goals first
    | exact ⟨isRow_V L, hL⟩
    | exact ⟨trivial, hL⟩
    | exact ⟨isRow_V L, hL, hS⟩
    | exact ⟨trivial, hL, hS⟩
    | (have h1 := rm_1 (s := s) (r := r) (nb_f hc)
       first
         | (rw [h1.1]; done)
         | (rw [h1.1]; exact (Reps.lit _).eqr)
         | (rw [h1.2]; done))
    | exact ⟨Int.natCast_nonneg _, Int.ofNat_lt.2 (Nat.lt_succ_self _)⟩
    | (have hq : (!shR L) = false := by assumption
       have hs := nb_t hq
       have h0 := shR_asc hs
       first
         | exact ⟨isRow_V L, hL, h0.1⟩
         | exact ⟨trivial, hL, h0.1⟩
         | (have h2 : (!has L s r) = true := by assumption
            have h1 := rm_5 hs (nb_f h2)
            first
              | (rw [h1.1]; done)
              | (rw [h1.1]; exact (Reps.lit _).eqr)
              | (rw [h1.2]; done))
         | (have h2 : (!has L s r) = false := by assumption
            have h3 := (has_pos ((ascB_iff L).1 h0.1) (nb_t h2)).1
            have h1 := rm_0 hs (nb_t h2)
            have hR := rm_reps L h3
            obtain ⟨p, hpp⟩ : ∃ p, p = pos L s r := ⟨_, rfl⟩
            rw [← hpp] at h3 h1 hR
            simp only [← hpp] at hc ⊢
            have hw : IntKind.i64.wrap ((p : Int) + 1) = ((p + 1 : Nat) : Int) := by rw [w64 (by omega)]; omega
            simp only [hw, Int.toNat_natCast, Nat.zero_add, Nat.sub_zero] at hc ⊢
            first
              | (exfalso; have hb := Int.ofNat_inj.1 (beq_iff_eq.1 hc); omega)
              | exact ⟨Int.natCast_nonneg _, Int.ofNat_lt.2 (by omega)⟩
              | omega
              | (refine ⟨?_, ?_⟩ <;> omega)
              | (rw [h1.2]; done)
              | (rw [h1.1]; simp; omega)
              | (have hn : (rmL L s r).length = p + (L.length - (p + 1)) := by rw [h1.1]; simp; omega
                 rw [hn]
                 exact cut_out hR (by omega) (h1.1.trans (rm_take L h3)))
              | trace_state)
         | trace_state)
    | trace_state
noncomputable def c_shRemove : Ct := fun A args => match args with
  | [.slc n 8 f, .agg [.int .u32 s, .str r]] => some (some (A.tp fun _ => isRow eE E0 8 n f ∧ n ≤ 1000000 ∧ ∀ i, enS ((lstOf eE E0 8 n f).getD i E0)), .tup [rowS eE E0 8 A fun _ => rmL (lstOf eE E0 8 n f) s r, .int .i64 (A.ti fun _ => rmC (lstOf eE E0 8 n f) s r)])
  | _ => none
noncomputable def gs6 : Ar → Pu := addC 41 c_shSwap (addC 43 c_shRemove (gs5))
theorem gs6_ok : PuOk Tryz.prog gl0 (gs6 std) := by
  refine addC_ok (addC_ok (gs5_ok) ⟨_, Tryz.func43, rfl, by decide⟩ ?_) ⟨_, Tryz.func41, rfl, by decide⟩ ?_
  · intro args p r h hp
    unfold c_shRemove at h
    split at h <;> cases h
    exact good_sv (good_shRemove _ _ _ (by rw [lstOf_length hp.1]; exact hp.2.1) hp.2.2) ⟨hp.1.sv, ⟨_, rfl, rfl, rfl, trivial⟩, trivial⟩
  · intro args p r h hp
    unfold c_shSwap at h
    split at h <;> cases h
    exact good_sv (good_shSwap _ _ _ _ _ _ _ _ _ _ (by rw [lstOf_length hp.1.1]; exact hp.1.2.1) hp.1.2.2 hp.2.1 hp.2.2) ⟨hp.1.1.sv, rfl, ⟨_, rfl, rfl, rfl, rfl, rfl, rfl, rfl, rfl, rfl, trivial⟩, trivial⟩
end Go.Vd

set_option linter.unusedVariables false
set_option linter.unusedSimpArgs false
set_option maxRecDepth 100000
set_option maxHeartbeats 8000000
namespace Go.Vd
open Go.Proofs
attribute [local irreducible] vc
theorem good_kShort (s : Int) (r : List UInt8) : GoodP Tryz.prog gl0 7 [sKey std s r] (.bool (std.tb fun _ => decide (r.length ≤ 300))) := by
  refine fn_sound' (T := seatT) (G := noC) (X := noX) seatT_ok noC_ok noX_ok noI_ok mixed Tryz.func7 (.one) (fun A => [sKey A s r]) (fun A => .bool (A.tb fun _ => decide (r.length ≤ 300))) fun A hA => ?_
  cbv
  repeat' (first | with_reducible exact True.intro | with_reducible exact dr_ok hA (by kernel_rfl) | with_reducible refine And.intro ?_ ?_ | (intro hc; cbv))
  all_goals (subst hA; simp [std_add, std_sub, std_mul, std_quo, std_rem, std_band, std_bor, std_bxor, std_shl, std_shr, std_eq, std_ne, std_lt, std_le, std_conv, std_not, std_beq, std_bne, std_ite, std_want, std_and2, std_sadd, std_seq, std_sne, std_slt, std_sle, std_sgt, std_sge, std_slen, std_sget, std_scut, std_ofNat, std_toNat, std_nsub, std_nadd, std_lenOf, std_nz, std_nneg, std_inb, std_upto, std_slt63, std_grow, std_imp, std_impN, std_tr, std_tb, std_ti, std_ts, std_tn, std_tp, std_nmin, std_nset, std_fset, std_makes, std_room, std_zeros, std_nilq, std_notq, std_eqi, std_eqn, std_eqb, std_eqs, std_eqv, std_cat, std_lst, std_rset, std_rcopy, std_shift, std_eqr, std_strOf, std_bytesOf, std_isB, std_zOf, zOf_int, std_isI, isI_int, std_getL, std_nmul, std_sOf, sOf_str, std_isS, isS_str, std_fadd, std_fsub, std_fav, std_fsv, std_feq, std_fne, std_flt, std_fle, std_fgt, std_fge, std_fOf, std_fTo, std_fTv] at *)
  all_goals omega
noncomputable def c_kShort : Ct := fun A args => match args with
  | [.agg [.int .u32 s, .str r]] => some (none, .bool (A.tb fun _ => decide (r.length ≤ 300)))
  | _ => none
noncomputable def gs7 : Ar → Pu := addC 7 c_kShort (gs6)
theorem gs7_ok : PuOk Tryz.prog gl0 (gs7 std) := by
  refine addC_ok (gs6_ok) ⟨_, Tryz.func7, rfl, by decide⟩ ?_
  · intro args p r h hp
    unfold c_kShort at h
    split at h <;> cases h
    exact good_kShort _ _
def shE (e : Ent) : Bool := decide (e.r.length ≤ 300 ∧ e.pan.length ≤ 300 ∧ e.code.length ≤ 300)
theorem good_eShort (s st am tr ca : Int) (r pan code : List UInt8) : GoodP Tryz.prog gl0 6 [.agg [.int .u32 s, .str r, .int .i64 st, .str pan, .int .u64 am, .str code, .int .i64 tr, .int .i64 ca]] (.bool (std.tb fun _ => shE ⟨s, r, st, pan, am, code, tr, ca⟩)) := by
  refine fn_sound' (T := seatT) (G := gs7) (X := noX) seatT_ok gs7_ok noX_ok noI_ok mixed Tryz.func6 (.one) (fun A => [.agg [.int .u32 s, .str r, .int .i64 st, .str pan, .int .u64 am, .str code, .int .i64 tr, .int .i64 ca]]) (fun A => .bool (A.tb fun _ => shE ⟨s, r, st, pan, am, code, tr, ca⟩)) fun A hA => ?_
  cbv
  repeat' (first | with_reducible exact True.intro | with_reducible exact dr_ok hA (by kernel_rfl) | with_reducible refine And.intro ?_ ?_ | (intro hc; cbv))
  all_goals (subst hA; try simp [std_add, std_sub, std_mul, std_quo, std_rem, std_band, std_bor, std_bxor, std_shl, std_shr, std_eq, std_ne, std_lt, std_le, std_conv, std_not, std_beq, std_bne, std_ite, std_want, std_and2, std_sadd, std_seq, std_sne, std_slt, std_sle, std_sgt, std_sge, std_slen, std_sget, std_scut, std_ofNat, std_toNat, std_nsub, std_nadd, std_lenOf, std_nz, std_nneg, std_inb, std_upto, std_slt63, std_grow, std_imp, std_impN, std_tr, std_tb, std_ti, std_ts, std_tn, std_tp, std_nmin, std_nset, std_fset, std_makes, std_room, std_zeros, std_nilq, std_notq, std_eqi, std_eqn, std_eqb, std_eqs, std_eqv, std_cat, std_lst, std_rset, std_rcopy, std_shift, std_eqr, std_strOf, std_bytesOf, std_isB, std_zOf, zOf_int, std_isI, isI_int, std_getL, std_nmul, std_sOf, sOf_str, std_isS, isS_str, std_fadd, std_fsub, std_fav, std_fsv, std_feq, std_fne, std_flt, std_fle, std_fgt, std_fge, std_fOf, std_fTo, std_fTv, shE] at *)
  all_goals first
    | (rw [Bool.eq_iff_iff]; simp; omega)
    | trace_state
noncomputable def c_eShort : Ct := fun A args => match args with
  | [.agg [.int .u32 s, .str r, .int .i64 st, .str pan, .int .u64 am, .str code, .int .i64 tr, .int .i64 ca]] => some (none, .bool (A.tb fun _ => shE ⟨s, r, st, pan, am, code, tr, ca⟩))
  | _ => none
noncomputable def gs8 : Ar → Pu := addC 6 c_eShort (gs7)
theorem gs8_ok : PuOk Tryz.prog gl0 (gs8 std) := by
  refine addC_ok (gs7_ok) ⟨_, Tryz.func6, rfl, by decide⟩ ?_
  · intro args p r h hp
    unfold c_eShort at h
    split at h <;> cases h
    exact good_eShort _ _ _ _ _ _ _ _
def shL (L : List Ent) : Bool := decide (L.length ≤ 200) && L.all shE
theorem shL_iff {L : List Ent} : shL L = true ↔ L.length ≤ 200 ∧ ∀ e ∈ L, shE e = true := by simp [shL]
theorem shL_no {L : List Ent} {i : Nat} (hi : i < L.length) (h : shE (L.getD i E0) = false) : shL L = false := by
  cases e : shL L
  · rfl
  · have := (shL_iff.1 e).2 (L.getD i E0) (by rw [List.getD_eq_getElem?_getD, List.getElem?_eq_getElem hi]; exact List.getElem_mem hi)
    rw [h] at this
    cases this
theorem shL_yes {L : List Ent} (h : ∀ j, j < L.length → shE (L.getD j E0) = true) : shL L = decide (L.length ≤ 200) := by
  have : L.all shE = true := List.all_eq_true.2 fun d hd => by
    obtain ⟨j, hj, e⟩ := List.getElem_of_mem hd
    have := h j hj
    rw [List.getD_eq_getElem?_getD, List.getElem?_eq_getElem hj] at this
    exact e ▸ this
  unfold shL
  rw [this, Bool.and_true]
theorem shL_big {L : List Ent} (h : ¬L.length ≤ 200) : shL L = false := by simp [shL, h]
theorem good_sShort (L : List Ent) (hL : L.length ≤ 9223372036854775807) : GoodP Tryz.prog gl0 24 [rowS eE E0 8 std fun _ => L] (.bool (std.tb fun _ => shL L)) := by
  refine fn_sound' (T := seatT) (G := gs8) (X := noX) seatT_ok gs8_ok noX_ok noI_ok mixed Tryz.func24 (.one) (fun A => [rowS eE E0 8 A fun _ => L]) (fun A => .bool (A.tb fun _ => shL L)) fun A hA => ?_
  cbv
  repeat' (first | with_reducible exact True.intro | with_reducible exact dr_ok hA (by kernel_rfl) | with_reducible refine And.intro ?_ ?_ | (intro hc; cbv))
  refine ⟨⟨{i : Nat // i ≤ L.length ∧ i ≤ 200 ∧ ∀ j, j < i → shE (L.getD j E0) = true}, fun b i => [(3, .int .i64 (i.1 : Nat))], fun b i => [], fun i => L.length - i.1, true⟩, ⟨⟨0, by omega, by omega, by simp⟩, ?_⟩, ?_⟩
  · cbv
    subst hA
    simp [-List.getD_eq_getElem?_getD, std_add, std_sub, std_mul, std_quo, std_rem, std_band, std_bor, std_bxor, std_shl, std_shr, std_eq, std_ne, std_lt, std_le, std_conv, std_not, std_beq, std_bne, std_ite, std_want, std_and2, std_sadd, std_seq, std_sne, std_slt, std_sle, std_sgt, std_sge, std_slen, std_sget, std_scut, std_ofNat, std_toNat, std_nsub, std_nadd, std_lenOf, std_nz, std_nneg, std_inb, std_upto, std_slt63, std_grow, std_imp, std_impN, std_tr, std_tb, std_ti, std_ts, std_tn, std_tp, std_nmin, std_nset, std_fset, std_makes, std_room, std_zeros, std_nilq, std_notq, std_eqi, std_eqn, std_eqb, std_eqs, std_eqv, std_cat, std_lst, std_rset, std_rcopy, std_shift, std_eqr, std_strOf, std_bytesOf, std_isB, std_zOf, zOf_int, std_isI, isI_int, std_getL, std_nmul, std_sOf, sOf_str, std_isS, isS_str, std_fadd, std_fsub, std_fav, std_fsv, std_feq, std_fne, std_flt, std_fle, std_fgt, std_fge, std_fOf, std_fTo, std_fTv]
  · rintro ⟨i, hx⟩
    have hi := hx.1
    have hi2 := hx.2.1
    have h0 := hx.2.2
    obtain ⟨e, he⟩ : ∃ e, e = L.getD i E0 := ⟨_, rfl⟩
    have hg : L.getD i { s := 0, r := [], st := 0, pan := [], am := 0, code := [], tr := 0, ca := 0 } = e := he.symm
    by_cases hlt : i < L.length ∧ i < 200
    · have hno := fun h => shL_no (L := L) hlt.1 (he ▸ h)
      cbv
      repeat' (first | with_reducible exact True.intro | with_reducible exact dr_ok hA (by kernel_rfl) | with_reducible refine And.intro ?_ ?_ | (intro hc; cbv))
      all_goals first
        | (fail_if_success (refine Exists.intro ?_ ?_)
           clear h0
           subst hA
           simp [-List.getD_eq_getElem?_getD, std_add, std_sub, std_mul, std_quo, std_rem, std_band, std_bor, std_bxor, std_shl, std_shr, std_eq, std_ne, std_lt, std_le, std_conv, std_not, std_beq, std_bne, std_ite, std_want, std_and2, std_sadd, std_seq, std_sne, std_slt, std_sle, std_sgt, std_sge, std_slen, std_sget, std_scut, std_ofNat, std_toNat, std_nsub, std_nadd, std_lenOf, std_nz, std_nneg, std_inb, std_upto, std_slt63, std_grow, std_imp, std_impN, std_tr, std_tb, std_ti, std_ts, std_tn, std_tp, std_nmin, std_nset, std_fset, std_makes, std_room, std_zeros, std_nilq, std_notq, std_eqi, std_eqn, std_eqb, std_eqs, std_eqv, std_cat, std_lst, std_rset, std_rcopy, std_shift, std_eqr, std_strOf, std_bytesOf, std_isB, std_zOf, zOf_int, std_isI, isI_int, std_getL, std_nmul, std_sOf, sOf_str, std_isS, isS_str, std_fadd, std_fsub, std_fav, std_fsv, std_feq, std_fne, std_flt, std_fle, std_fgt, std_fge, std_fOf, std_fTo, std_fTv, hg] at *
           first
             | done
             | exact ⟨(show (0 : Int) ≤ ((i : Nat) : Int) by omega), (show ((i : Nat) : Int) < ((L.length : Nat) : Int) by omega)⟩
             | exact hno hc
             | omega
             | (exfalso; omega)
             | trace_state)
        | (obtain ⟨i', hi'⟩ : ∃ i', i' = i + 1 := ⟨_, rfl⟩
           have hk : shE e = true := by
             clear h0
             subst hA
             simp [-List.getD_eq_getElem?_getD, std_add, std_sub, std_mul, std_quo, std_rem, std_band, std_bor, std_bxor, std_shl, std_shr, std_eq, std_ne, std_lt, std_le, std_conv, std_not, std_beq, std_bne, std_ite, std_want, std_and2, std_sadd, std_seq, std_sne, std_slt, std_sle, std_sgt, std_sge, std_slen, std_sget, std_scut, std_ofNat, std_toNat, std_nsub, std_nadd, std_lenOf, std_nz, std_nneg, std_inb, std_upto, std_slt63, std_grow, std_imp, std_impN, std_tr, std_tb, std_ti, std_ts, std_tn, std_tp, std_nmin, std_nset, std_fset, std_makes, std_room, std_zeros, std_nilq, std_notq, std_eqi, std_eqn, std_eqb, std_eqs, std_eqv, std_cat, std_lst, std_rset, std_rcopy, std_shift, std_eqr, std_strOf, std_bytesOf, std_isB, std_zOf, zOf_int, std_isI, isI_int, std_getL, std_nmul, std_sOf, sOf_str, std_isS, isS_str, std_fadd, std_fsub, std_fav, std_fsv, std_feq, std_fne, std_flt, std_fle, std_fgt, std_fge, std_fOf, std_fTo, std_fTv, hg] at hc
             exact hc
           refine ⟨⟨i', by omega, by omega, fun j hj => ?_⟩, ?_, show L.length - i' < L.length - i by omega⟩
           · rcases Nat.lt_or_ge j i with h | h
             · exact h0 j h
             · obtain rfl : j = i := by omega
               rw [← he]; exact hk
           · cbv
             subst hA
             simp [-List.getD_eq_getElem?_getD, std_add, std_sub, std_mul, std_quo, std_rem, std_band, std_bor, std_bxor, std_shl, std_shr, std_eq, std_ne, std_lt, std_le, std_conv, std_not, std_beq, std_bne, std_ite, std_want, std_and2, std_sadd, std_seq, std_sne, std_slt, std_sle, std_sgt, std_sge, std_slen, std_sget, std_scut, std_ofNat, std_toNat, std_nsub, std_nadd, std_lenOf, std_nz, std_nneg, std_inb, std_upto, std_slt63, std_grow, std_imp, std_impN, std_tr, std_tb, std_ti, std_ts, std_tn, std_tp, std_nmin, std_nset, std_fset, std_makes, std_room, std_zeros, std_nilq, std_notq, std_eqi, std_eqn, std_eqb, std_eqs, std_eqv, std_cat, std_lst, std_rset, std_rcopy, std_shift, std_eqr, std_strOf, std_bytesOf, std_isB, std_zOf, zOf_int, std_isI, isI_int, std_getL, std_nmul, std_sOf, sOf_str, std_isS, isS_str, std_fadd, std_fsub, std_fav, std_fsv, std_feq, std_fne, std_flt, std_fle, std_fgt, std_fge, std_fOf, std_fTo, std_fTv]
             exact w_succ' hi' (by omega))
        | trace_state
    · have hans : shL L = decide (L.length ≤ 200) := by
        by_cases hb : L.length ≤ 200
        · exact shL_yes fun j hj => h0 j (by omega)
        · rw [shL_big hb, decide_eq_false hb]
      cbv
      repeat' (first | with_reducible exact True.intro | with_reducible exact dr_ok hA (by kernel_rfl) | with_reducible refine And.intro ?_ ?_ | (intro hc; cbv))
      all_goals first
        | (exfalso
           clear h0
           subst hA
           simp [-List.getD_eq_getElem?_getD, std_add, std_sub, std_mul, std_quo, std_rem, std_band, std_bor, std_bxor, std_shl, std_shr, std_eq, std_ne, std_lt, std_le, std_conv, std_not, std_beq, std_bne, std_ite, std_want, std_and2, std_sadd, std_seq, std_sne, std_slt, std_sle, std_sgt, std_sge, std_slen, std_sget, std_scut, std_ofNat, std_toNat, std_nsub, std_nadd, std_lenOf, std_nz, std_nneg, std_inb, std_upto, std_slt63, std_grow, std_imp, std_impN, std_tr, std_tb, std_ti, std_ts, std_tn, std_tp, std_nmin, std_nset, std_fset, std_makes, std_room, std_zeros, std_nilq, std_notq, std_eqi, std_eqn, std_eqb, std_eqs, std_eqv, std_cat, std_lst, std_rset, std_rcopy, std_shift, std_eqr, std_strOf, std_bytesOf, std_isB, std_zOf, zOf_int, std_isI, isI_int, std_getL, std_nmul, std_sOf, sOf_str, std_isS, isS_str, std_fadd, std_fsub, std_fav, std_fsv, std_feq, std_fne, std_flt, std_fle, std_fgt, std_fge, std_fOf, std_fTo, std_fTv, hg] at hc
           omega)
        | (exfalso
           clear h0
           subst hA
           rename_i q
           simp [-List.getD_eq_getElem?_getD, std_add, std_sub, std_mul, std_quo, std_rem, std_band, std_bor, std_bxor, std_shl, std_shr, std_eq, std_ne, std_lt, std_le, std_conv, std_not, std_beq, std_bne, std_ite, std_want, std_and2, std_sadd, std_seq, std_sne, std_slt, std_sle, std_sgt, std_sge, std_slen, std_sget, std_scut, std_ofNat, std_toNat, std_nsub, std_nadd, std_lenOf, std_nz, std_nneg, std_inb, std_upto, std_slt63, std_grow, std_imp, std_impN, std_tr, std_tb, std_ti, std_ts, std_tn, std_tp, std_nmin, std_nset, std_fset, std_makes, std_room, std_zeros, std_nilq, std_notq, std_eqi, std_eqn, std_eqb, std_eqs, std_eqv, std_cat, std_lst, std_rset, std_rcopy, std_shift, std_eqr, std_strOf, std_bytesOf, std_isB, std_zOf, zOf_int, std_isI, isI_int, std_getL, std_nmul, std_sOf, sOf_str, std_isS, isS_str, std_fadd, std_fsub, std_fav, std_fsv, std_feq, std_fne, std_flt, std_fle, std_fgt, std_fge, std_fOf, std_fTo, std_fTv, hg] at q
           omega)
        | (clear h0
           subst hA
           simp [-List.getD_eq_getElem?_getD, std_add, std_sub, std_mul, std_quo, std_rem, std_band, std_bor, std_bxor, std_shl, std_shr, std_eq, std_ne, std_lt, std_le, std_conv, std_not, std_beq, std_bne, std_ite, std_want, std_and2, std_sadd, std_seq, std_sne, std_slt, std_sle, std_sgt, std_sge, std_slen, std_sget, std_scut, std_ofNat, std_toNat, std_nsub, std_nadd, std_lenOf, std_nz, std_nneg, std_inb, std_upto, std_slt63, std_grow, std_imp, std_impN, std_tr, std_tb, std_ti, std_ts, std_tn, std_tp, std_nmin, std_nset, std_fset, std_makes, std_room, std_zeros, std_nilq, std_notq, std_eqi, std_eqn, std_eqb, std_eqs, std_eqv, std_cat, std_lst, std_rset, std_rcopy, std_shift, std_eqr, std_strOf, std_bytesOf, std_isB, std_zOf, zOf_int, std_isI, isI_int, std_getL, std_nmul, std_sOf, sOf_str, std_isS, isS_str, std_fadd, std_fsub, std_fav, std_fsv, std_feq, std_fne, std_flt, std_fle, std_fgt, std_fge, std_fOf, std_fTo, std_fTv, hg] at *
           first
             | done
             | (rw [hans, Bool.eq_iff_iff]; simp; omega)
             | (rw [hans]; simp; done)
             | omega
             | (intros; omega)
             | trace_state)
        | trace_state
noncomputable def c_sShort : Ct := fun A args => match args with
  | [.slc n 8 f] => some (some (A.tp fun _ => isRow eE E0 8 n f ∧ n ≤ 9223372036854775807), .bool (A.tb fun _ => shL (lstOf eE E0 8 n f)))
  | _ => none
theorem Ent_ext {x y : Ent} (h0 : x.s = y.s) (h1 : x.r = y.r) (h2 : x.st = y.st) (h3 : x.pan = y.pan) (h4 : x.am = y.am) (h5 : x.code = y.code) (h6 : x.tr = y.tr) (h7 : x.ca = y.ca) : x = y := by cases x; cases y; simp_all
theorem good_eSame (L M : List Ent) (hL : L.length ≤ 1000000) : GoodP Tryz.prog gl0 15 [rowS eE E0 8 std fun _ => L, rowS eE E0 8 std fun _ => M] (.bool (std.tb fun _ => decide (L = M))) := by
  refine fn_sound' (T := seatT) (G := noC) (X := noX) seatT_ok noC_ok noX_ok noI_ok mixed Tryz.func15 (.one) (fun A => [rowS eE E0 8 A fun _ => L, rowS eE E0 8 A fun _ => M]) (fun A => .bool (A.tb fun _ => decide (L = M))) fun A hA => ?_
  cbv
  repeat' (first | with_reducible exact True.intro | with_reducible exact dr_ok hA (by kernel_rfl) | with_reducible refine And.intro ?_ ?_ | (intro hc; cbv))
  rotate_right
  all_goals first
    | (fail_if_success (refine Exists.intro ?_ ?_)
       subst hA
       simp [std_add, std_sub, std_mul, std_quo, std_rem, std_band, std_bor, std_bxor, std_shl, std_shr, std_eq, std_ne, std_lt, std_le, std_conv, std_not, std_beq, std_bne, std_ite, std_want, std_and2, std_sadd, std_seq, std_sne, std_slt, std_sle, std_sgt, std_sge, std_slen, std_sget, std_scut, std_ofNat, std_toNat, std_nsub, std_nadd, std_lenOf, std_nz, std_nneg, std_inb, std_upto, std_slt63, std_grow, std_imp, std_impN, std_tr, std_tb, std_ti, std_ts, std_tn, std_tp, std_nmin, std_nset, std_fset, std_makes, std_room, std_zeros, std_nilq, std_notq, std_eqi, std_eqn, std_eqb, std_eqs, std_eqv, std_cat, std_lst, std_rset, std_rcopy, std_shift, std_eqr, std_strOf, std_bytesOf, std_isB, std_zOf, zOf_int, std_isI, isI_int, std_getL, std_nmul, std_sOf, sOf_str, std_isS, isS_str, std_fadd, std_fsub, std_fav, std_fsv, std_feq, std_fne, std_flt, std_fle, std_fgt, std_fge, std_fOf, std_fTo, std_fTv] at *
       first | done | (intro e; subst e; exact absurd rfl (by assumption)))
    | skip
  have hl : L.length = M.length := by subst hA; simp [std_add, std_sub, std_mul, std_quo, std_rem, std_band, std_bor, std_bxor, std_shl, std_shr, std_eq, std_ne, std_lt, std_le, std_conv, std_not, std_beq, std_bne, std_ite, std_want, std_and2, std_sadd, std_seq, std_sne, std_slt, std_sle, std_sgt, std_sge, std_slen, std_sget, std_scut, std_ofNat, std_toNat, std_nsub, std_nadd, std_lenOf, std_nz, std_nneg, std_inb, std_upto, std_slt63, std_grow, std_imp, std_impN, std_tr, std_tb, std_ti, std_ts, std_tn, std_tp, std_nmin, std_nset, std_fset, std_makes, std_room, std_zeros, std_nilq, std_notq, std_eqi, std_eqn, std_eqb, std_eqs, std_eqv, std_cat, std_lst, std_rset, std_rcopy, std_shift, std_eqr, std_strOf, std_bytesOf, std_isB, std_zOf, zOf_int, std_isI, isI_int, std_getL, std_nmul, std_sOf, sOf_str, std_isS, isS_str, std_fadd, std_fsub, std_fav, std_fsv, std_feq, std_fne, std_flt, std_fle, std_fgt, std_fge, std_fOf, std_fTo, std_fTv] at hc; omega
  refine ⟨⟨{i : Nat // i ≤ L.length ∧ L.take i = M.take i}, fun b i => [(5, .int .i64 (i.1 : Nat))], fun b i => [], fun i => L.length - i.1, true⟩, ⟨⟨0, by omega, rfl⟩, ?_⟩, ?_⟩
  · cbv
    subst hA
    simp [-List.getD_eq_getElem?_getD, std_add, std_sub, std_mul, std_quo, std_rem, std_band, std_bor, std_bxor, std_shl, std_shr, std_eq, std_ne, std_lt, std_le, std_conv, std_not, std_beq, std_bne, std_ite, std_want, std_and2, std_sadd, std_seq, std_sne, std_slt, std_sle, std_sgt, std_sge, std_slen, std_sget, std_scut, std_ofNat, std_toNat, std_nsub, std_nadd, std_lenOf, std_nz, std_nneg, std_inb, std_upto, std_slt63, std_grow, std_imp, std_impN, std_tr, std_tb, std_ti, std_ts, std_tn, std_tp, std_nmin, std_nset, std_fset, std_makes, std_room, std_zeros, std_nilq, std_notq, std_eqi, std_eqn, std_eqb, std_eqs, std_eqv, std_cat, std_lst, std_rset, std_rcopy, std_shift, std_eqr, std_strOf, std_bytesOf, std_isB, std_zOf, zOf_int, std_isI, isI_int, std_getL, std_nmul, std_sOf, sOf_str, std_isS, isS_str, std_fadd, std_fsub, std_fav, std_fsv, std_feq, std_fne, std_flt, std_fle, std_fgt, std_fge, std_fOf, std_fTo, std_fTv]
  · rintro ⟨i, hx⟩
    have hi := hx.1
    have hz := hx.2
    obtain ⟨e, he⟩ : ∃ e, e = L.getD i E0 := ⟨_, rfl⟩
    obtain ⟨g, hgg⟩ : ∃ g, g = M.getD i E0 := ⟨_, rfl⟩
    have h1 : L.getD i { s := 0, r := [], st := 0, pan := [], am := 0, code := [], tr := 0, ca := 0 } = e := he.symm
    have h2 : M.getD i { s := 0, r := [], st := 0, pan := [], am := 0, code := [], tr := 0, ca := 0 } = g := hgg.symm
    have hne : ¬e = g → ¬L = M := fun hn hLM => hn (by rw [he, hgg, hLM])
    rcases Nat.lt_or_ge i L.length with hlt | hge
    · cbv
      repeat' (first | with_reducible exact True.intro | with_reducible exact dr_ok hA (by kernel_rfl) | with_reducible refine And.intro ?_ ?_ | (intro hc; cbv))
      all_goals first
        | (fail_if_success (refine Exists.intro ?_ ?_)
           clear hz
           subst hA
           simp [-List.getD_eq_getElem?_getD, std_add, std_sub, std_mul, std_quo, std_rem, std_band, std_bor, std_bxor, std_shl, std_shr, std_eq, std_ne, std_lt, std_le, std_conv, std_not, std_beq, std_bne, std_ite, std_want, std_and2, std_sadd, std_seq, std_sne, std_slt, std_sle, std_sgt, std_sge, std_slen, std_sget, std_scut, std_ofNat, std_toNat, std_nsub, std_nadd, std_lenOf, std_nz, std_nneg, std_inb, std_upto, std_slt63, std_grow, std_imp, std_impN, std_tr, std_tb, std_ti, std_ts, std_tn, std_tp, std_nmin, std_nset, std_fset, std_makes, std_room, std_zeros, std_nilq, std_notq, std_eqi, std_eqn, std_eqb, std_eqs, std_eqv, std_cat, std_lst, std_rset, std_rcopy, std_shift, std_eqr, std_strOf, std_bytesOf, std_isB, std_zOf, zOf_int, std_isI, isI_int, std_getL, std_nmul, std_sOf, sOf_str, std_isS, isS_str, std_fadd, std_fsub, std_fav, std_fsv, std_feq, std_fne, std_flt, std_fle, std_fgt, std_fge, std_fOf, std_fTo, std_fTv, h1, h2] at *
           first
             | done
             | exact ⟨(show (0 : Int) ≤ ((i : Nat) : Int) by omega), (show ((i : Nat) : Int) < ((M.length : Nat) : Int) by omega)⟩
             | omega
             | (apply hne; intro h; subst h; simp at hc; done)
             | (intro hLM; refine hne ?_ hLM; intro h; subst h; simp at hc; done)
             | trace_state)
        | (obtain ⟨i', hi'⟩ : ∃ i', i' = i + 1 := ⟨_, rfl⟩
           have hk : e = g := by
             clear hz hne
             subst hA
             simp [-List.getD_eq_getElem?_getD, std_add, std_sub, std_mul, std_quo, std_rem, std_band, std_bor, std_bxor, std_shl, std_shr, std_eq, std_ne, std_lt, std_le, std_conv, std_not, std_beq, std_bne, std_ite, std_want, std_and2, std_sadd, std_seq, std_sne, std_slt, std_sle, std_sgt, std_sge, std_slen, std_sget, std_scut, std_ofNat, std_toNat, std_nsub, std_nadd, std_lenOf, std_nz, std_nneg, std_inb, std_upto, std_slt63, std_grow, std_imp, std_impN, std_tr, std_tb, std_ti, std_ts, std_tn, std_tp, std_nmin, std_nset, std_fset, std_makes, std_room, std_zeros, std_nilq, std_notq, std_eqi, std_eqn, std_eqb, std_eqs, std_eqv, std_cat, std_lst, std_rset, std_rcopy, std_shift, std_eqr, std_strOf, std_bytesOf, std_isB, std_zOf, zOf_int, std_isI, isI_int, std_getL, std_nmul, std_sOf, sOf_str, std_isS, isS_str, std_fadd, std_fsub, std_fav, std_fsv, std_feq, std_fne, std_flt, std_fle, std_fgt, std_fge, std_fOf, std_fTo, std_fTv, h1, h2] at hc
             exact Ent_ext hc.1 hc.2.1 hc.2.2.1 hc.2.2.2.1 hc.2.2.2.2.1 hc.2.2.2.2.2.1 hc.2.2.2.2.2.2.1 hc.2.2.2.2.2.2.2
           refine ⟨⟨i', by omega, ?_⟩, ?_, show L.length - i' < L.length - i by omega⟩
           · rw [hi', ← take_snoc (d := E0) hlt, ← take_snoc (d := E0) (show i < M.length by omega), hz, ← he, ← hgg, hk]
           · cbv
             subst hA
             simp [-List.getD_eq_getElem?_getD, std_add, std_sub, std_mul, std_quo, std_rem, std_band, std_bor, std_bxor, std_shl, std_shr, std_eq, std_ne, std_lt, std_le, std_conv, std_not, std_beq, std_bne, std_ite, std_want, std_and2, std_sadd, std_seq, std_sne, std_slt, std_sle, std_sgt, std_sge, std_slen, std_sget, std_scut, std_ofNat, std_toNat, std_nsub, std_nadd, std_lenOf, std_nz, std_nneg, std_inb, std_upto, std_slt63, std_grow, std_imp, std_impN, std_tr, std_tb, std_ti, std_ts, std_tn, std_tp, std_nmin, std_nset, std_fset, std_makes, std_room, std_zeros, std_nilq, std_notq, std_eqi, std_eqn, std_eqb, std_eqs, std_eqv, std_cat, std_lst, std_rset, std_rcopy, std_shift, std_eqr, std_strOf, std_bytesOf, std_isB, std_zOf, zOf_int, std_isI, isI_int, std_getL, std_nmul, std_sOf, sOf_str, std_isS, isS_str, std_fadd, std_fsub, std_fav, std_fsv, std_feq, std_fne, std_flt, std_fle, std_fgt, std_fge, std_fOf, std_fTo, std_fTv]
             exact w_succ' hi' (by omega))
        | trace_state
    · have hie : i = L.length := by omega
      rw [hie, List.take_length, hl, List.take_length] at hz
      cbv
      repeat' (first | with_reducible exact True.intro | with_reducible exact dr_ok hA (by kernel_rfl) | with_reducible refine And.intro ?_ ?_ | (intro hc; cbv))
      all_goals first
        | (exfalso; clear hz; subst hA; simp [-List.getD_eq_getElem?_getD, std_add, std_sub, std_mul, std_quo, std_rem, std_band, std_bor, std_bxor, std_shl, std_shr, std_eq, std_ne, std_lt, std_le, std_conv, std_not, std_beq, std_bne, std_ite, std_want, std_and2, std_sadd, std_seq, std_sne, std_slt, std_sle, std_sgt, std_sge, std_slen, std_sget, std_scut, std_ofNat, std_toNat, std_nsub, std_nadd, std_lenOf, std_nz, std_nneg, std_inb, std_upto, std_slt63, std_grow, std_imp, std_impN, std_tr, std_tb, std_ti, std_ts, std_tn, std_tp, std_nmin, std_nset, std_fset, std_makes, std_room, std_zeros, std_nilq, std_notq, std_eqi, std_eqn, std_eqb, std_eqs, std_eqv, std_cat, std_lst, std_rset, std_rcopy, std_shift, std_eqr, std_strOf, std_bytesOf, std_isB, std_zOf, zOf_int, std_isI, isI_int, std_getL, std_nmul, std_sOf, sOf_str, std_isS, isS_str, std_fadd, std_fsub, std_fav, std_fsv, std_feq, std_fne, std_flt, std_fle, std_fgt, std_fge, std_fOf, std_fTo, std_fTv] at hc; omega)
        | (exfalso; clear hz; subst hA; rename_i q; simp [-List.getD_eq_getElem?_getD, std_add, std_sub, std_mul, std_quo, std_rem, std_band, std_bor, std_bxor, std_shl, std_shr, std_eq, std_ne, std_lt, std_le, std_conv, std_not, std_beq, std_bne, std_ite, std_want, std_and2, std_sadd, std_seq, std_sne, std_slt, std_sle, std_sgt, std_sge, std_slen, std_sget, std_scut, std_ofNat, std_toNat, std_nsub, std_nadd, std_lenOf, std_nz, std_nneg, std_inb, std_upto, std_slt63, std_grow, std_imp, std_impN, std_tr, std_tb, std_ti, std_ts, std_tn, std_tp, std_nmin, std_nset, std_fset, std_makes, std_room, std_zeros, std_nilq, std_notq, std_eqi, std_eqn, std_eqb, std_eqs, std_eqv, std_cat, std_lst, std_rset, std_rcopy, std_shift, std_eqr, std_strOf, std_bytesOf, std_isB, std_zOf, zOf_int, std_isI, isI_int, std_getL, std_nmul, std_sOf, sOf_str, std_isS, isS_str, std_fadd, std_fsub, std_fav, std_fsv, std_feq, std_fne, std_flt, std_fle, std_fgt, std_fge, std_fOf, std_fTo, std_fTv] at q; omega)
        | (subst hA
           simp [-List.getD_eq_getElem?_getD, std_add, std_sub, std_mul, std_quo, std_rem, std_band, std_bor, std_bxor, std_shl, std_shr, std_eq, std_ne, std_lt, std_le, std_conv, std_not, std_beq, std_bne, std_ite, std_want, std_and2, std_sadd, std_seq, std_sne, std_slt, std_sle, std_sgt, std_sge, std_slen, std_sget, std_scut, std_ofNat, std_toNat, std_nsub, std_nadd, std_lenOf, std_nz, std_nneg, std_inb, std_upto, std_slt63, std_grow, std_imp, std_impN, std_tr, std_tb, std_ti, std_ts, std_tn, std_tp, std_nmin, std_nset, std_fset, std_makes, std_room, std_zeros, std_nilq, std_notq, std_eqi, std_eqn, std_eqb, std_eqs, std_eqv, std_cat, std_lst, std_rset, std_rcopy, std_shift, std_eqr, std_strOf, std_bytesOf, std_isB, std_zOf, zOf_int, std_isI, isI_int, std_getL, std_nmul, std_sOf, sOf_str, std_isS, isS_str, std_fadd, std_fsub, std_fav, std_fsv, std_feq, std_fne, std_flt, std_fle, std_fgt, std_fge, std_fOf, std_fTo, std_fTv, hz] at *)
        | trace_state
noncomputable def c_eSame : Ct := fun A args => match args with
  | [.slc n 8 f, .slc m 8 g] => some (some (A.tp fun _ => (isRow eE E0 8 n f ∧ isRow eE E0 8 m g) ∧ n ≤ 1000000), .bool (A.tb fun _ => decide (lstOf eE E0 8 n f = lstOf eE E0 8 m g)))
  | _ => none
noncomputable def gs9 : Ar → Pu := addC 24 c_sShort (addC 15 c_eSame (gs8))
theorem gs9_ok : PuOk Tryz.prog gl0 (gs9 std) := by
  refine addC_ok (addC_ok (gs8_ok) ⟨_, Tryz.func15, rfl, by decide⟩ ?_) ⟨_, Tryz.func24, rfl, by decide⟩ ?_
  · intro args p r h hp
    unfold c_eSame at h
    split at h <;> cases h
    exact good_sv (good_eSame _ _ (by rw [lstOf_length hp.1.1]; exact hp.2)) ⟨hp.1.1.sv, hp.1.2.sv, trivial⟩
  · intro args p r h hp
    unfold c_sShort at h
    split at h <;> cases h
    exact good_sv (good_sShort _ (by rw [lstOf_length hp.1]; exact hp.2)) ⟨hp.1.sv, trivial⟩
end Go.Vd

set_option linter.unusedVariables false
set_option linter.unusedSimpArgs false
set_option maxRecDepth 100000
set_option maxHeartbeats 8000000
namespace Go.Vd
theorem ordK_gt {s t : Int} {r q : List UInt8} (h : ¬ordK s r t q < 0) (hn : ¬(s = t ∧ r = q)) : ordK t q s r < 0 := by
  rw [ordK_lt_iff] at *
  rcases Int.lt_trichotomy s t with h1 | h1 | h1
  · exact absurd (.inl h1) h
  · subst h1
    rcases triS r q with ⟨h2, _⟩ | ⟨h2, _⟩ | ⟨h2, _⟩
    · exact absurd (.inr ⟨rfl, h2⟩) h
    · exact absurd ⟨rfl, h2⟩ hn
    · exact .inr ⟨rfl, h2⟩
  · exact .inl h1
theorem getD_mem {L : List Ent} {i : Nat} (h : i < L.length) : L.getD i E0 ∈ L := by
  rw [List.getD_eq_getElem?_getD, List.getElem?_eq_getElem h]; exact List.getElem_mem h
theorem getD_get {L : List Ent} {i : Nat} (h : i < L.length) : L[i] = L.getD i E0 := by simp [List.getD_eq_getElem?_getD, h]
theorem asc_pw {L : List Ent} : ascP L ↔ (∀ x ∈ L, eR x = true) ∧ L.Pairwise fun x y => ordE x y < 0 := by
  constructor
  · intro h
    refine ⟨fun x hx => ?_, ?_⟩
    · obtain ⟨i, hi, rfl⟩ := List.getElem_of_mem hx
      rw [getD_get hi]
      exact (h i hi).1
    · rw [List.pairwise_iff_getElem]
      intro i j hi hj hij
      rw [getD_get hi, getD_get hj]
      exact asc_mono h hij hj
  · rintro ⟨h1, h2⟩ j hj
    refine ⟨h1 _ (getD_mem hj), fun h0 => ?_⟩
    rw [List.pairwise_iff_getElem] at h2
    have := h2 (j - 1) j (by omega) hj (by omega)
    rw [getD_get (by omega), getD_get hj] at this
    exact this
structure Sp (A B : List Ent) (s : Int) (r : List UInt8) : Prop where
  ra : ∀ a ∈ A, eR a = true
  rb : ∀ b ∈ B, eR b = true
  pa : A.Pairwise fun x y => ordE x y < 0
  pb : B.Pairwise fun x y => ordE x y < 0
  la : ∀ a ∈ A, ordK a.s a.r s r < 0
  lb : ∀ b ∈ B, ordK s r b.s b.r < 0
theorem Sp.asc {A B : List Ent} {s : Int} {r : List UInt8} (h : Sp A B s r) {e : Ent} (he : eR e = true) (hs : e.s = s) (hr : e.r = r) : ascP (A ++ e :: B) := by
  rw [asc_pw]
  refine ⟨fun x hx => ?_, ?_⟩
  · rcases List.mem_append.1 hx with hx | hx
    · exact h.ra x hx
    · rcases List.mem_cons.1 hx with rfl | hx
      · exact he
      · exact h.rb x hx
  · rw [List.pairwise_append]
    have hcr : ∀ b ∈ B, ordE e b < 0 := fun b hb => by unfold ordE; rw [hs, hr]; exact h.lb b hb
    refine ⟨h.pa, List.pairwise_cons.2 ⟨hcr, h.pb⟩, fun a ha b hb => ?_⟩
    have h1 : ordE a e < 0 := by unfold ordE; rw [hs, hr]; exact h.la a ha
    rcases List.mem_cons.1 hb with rfl | hb
    · exact h1
    · exact ordK_trans h1 (hcr b hb)
theorem Sp.kA {A B : List Ent} {s : Int} {r : List UInt8} (h : Sp A B s r) {a : Ent} (ha : a ∈ A) : kE s r a = false := by
  cases hk : kE s r a
  · rfl
  · have := ltK_self hk
    unfold ltK at this
    have h2 := h.la a ha
    rw [decide_eq_true h2] at this
    cases this
theorem Sp.kB {A B : List Ent} {s : Int} {r : List UInt8} (h : Sp A B s r) {b : Ent} (hb : b ∈ B) : kE s r b = false := by
  cases hk : kE s r b
  · rfl
  · have h2 := h.lb b hb
    obtain ⟨h3, h4⟩ := kE_iff.1 hk
    rw [h3, h4, ordK_eq, if_pos ⟨rfl, rfl⟩] at h2
    exact absurd h2 (by decide)
theorem Sp.pos {A B : List Ent} {s : Int} {r : List UInt8} (h : Sp A B s r) {e : Ent} (hs : e.s = s) (hr : e.r = r) : pos (A ++ e :: B) s r = A.length := by
  unfold Vd.pos
  rw [List.takeWhile_append_of_pos (fun a ha => by unfold ltK; exact decide_eq_true (h.la a ha)), List.takeWhile_cons, if_neg (by rw [ltK_self (kE_iff.2 ⟨hs, hr⟩)]; simp), List.append_nil]
theorem find_none {A : List Ent} {s : Int} {r : List UInt8} (h : ∀ a ∈ A, kE s r a = false) : A.find? (kE s r) = none := by
  rw [List.find?_eq_none]
  intro x hx
  rw [h x hx]
  simp
theorem Sp.fnd {A B : List Ent} {s : Int} {r : List UInt8} (h : Sp A B s r) {e : Ent} (hs : e.s = s) (hr : e.r = r) : fnd (A ++ e :: B) s r = e ∧ has (A ++ e :: B) s r = true := by
  have hk : kE s r e = true := kE_iff.2 ⟨hs, hr⟩
  constructor
  · unfold Vd.fnd
    rw [List.find?_append, find_none fun a ha => h.kA ha, List.find?_cons, hk]
    rfl
  · unfold has
    simp [hk]
theorem Sp.oth {A B : List Ent} {s s' : Int} {r r' : List UInt8} {e : Ent} (hn : ¬(e.s = s' ∧ e.r = r')) : Vd.fnd (A ++ e :: B) s' r' = Vd.fnd (A ++ B) s' r' ∧ has (A ++ e :: B) s' r' = has (A ++ B) s' r' := by
  have hk : kE s' r' e = false := kE_no hn
  constructor
  · unfold Vd.fnd
    rw [List.find?_append, List.find?_append, List.find?_cons, hk]
  · unfold has
    simp [hk]
theorem has_no {L : List Ent} {s : Int} {r : List UInt8} (h : has L s r = false) {x : Ent} (hx : x ∈ L) : kE s r x = false := by
  unfold has at h
  rw [List.any_eq_false] at h
  exact Bool.eq_false_iff.2 (h x hx)
theorem Sp.of {L : List Ent} {s : Int} {r : List UInt8} (hasc : ascP L) (hn : has L s r = false) : Sp (L.take (Vd.pos L s r)) (L.drop (Vd.pos L s r)) s r := by
  have h2 := asc_pw.1 hasc
  have hpl := pos_le L s r
  refine ⟨fun a ha => h2.1 a (List.mem_of_mem_take ha), fun b hb => h2.1 b (List.mem_of_mem_drop hb), h2.2.sublist (List.take_sublist _ _), h2.2.sublist (List.drop_sublist _ _), fun a ha => ?_, fun b hb => ?_⟩
  · obtain ⟨i, hi, rfl⟩ := List.getElem_of_mem ha
    rw [List.length_take] at hi
    rw [List.getElem_take, getD_get (by omega)]
    have := pos_lt (L := L) (s := s) (r := r) (t := i) (by omega)
    unfold ltK at this
    exact of_decide_eq_true this
  · have hm := List.mem_of_mem_drop hb
    have hk := has_no hn hm
    obtain ⟨i, hi, rfl⟩ := List.getElem_of_mem hb
    rw [List.length_drop] at hi
    rw [List.getElem_drop] at hk ⊢
    rw [getD_get (by omega)] at hk ⊢
    have := pos_far hasc (s := s) (r := r) (t := Vd.pos L s r + i) (by omega) (by omega)
    unfold ltK at this
    exact ordK_gt (of_decide_eq_false this) fun h => by rw [kE_iff.2 h] at hk; cases hk
/-- What an entry's being put comes to. -/
theorem ins_spec {L : List Ent} {e : Ent} (h : insC L e = 0) : shR L = true ∧ eR e = true ∧ has L e.s e.r = false ∧ ¬L.length = 128 ∧ L.length ≤ 128 ∧ Sp (L.take (pos L e.s e.r)) (L.drop (pos L e.s e.r)) e.s e.r ∧ insL L e = L.take (pos L e.s e.r) ++ e :: L.drop (pos L e.s e.r) ∧ L = L.take (pos L e.s e.r) ++ L.drop (pos L e.s e.r) := by
  by_cases h1 : (shR L && eR e) = true
  · have h2 : shR L = true ∧ eR e = true := by simpa using h1
    have h3 := shR_asc h2.1
    have hb : (bif shR L then eR e else false) = true := by rw [h2.1, h2.2]; rfl
    cases h4 : has L e.s e.r
    · by_cases h5 : L.length = 128
      · rw [(insL_7 hb h4 h5).2] at h; cases h
      · have h6 := (insL_0 hb h4 h5).1
        refine ⟨h2.1, h2.2, rfl, h5, h3.2, Sp.of ((ascB_iff L).1 h3.1) h4, ?_, (List.take_append_drop _ _).symm⟩
        rw [h6, List.append_assoc]; rfl
    · rw [(insL_6 hb h4).2] at h; cases h
  · unfold insC at h
    rw [if_neg h1] at h
    cases h
/-- An entry in its place, and another one of its key. -/
theorem mid_spec {A B : List Ent} {e : Ent} (h : Sp A B e.s e.r) (he : eR e = true) (hl : A.length + B.length < 128) : shR (A ++ e :: B) = true ∧ has (A ++ e :: B) e.s e.r = true ∧ fnd (A ++ e :: B) e.s e.r = e ∧ pos (A ++ e :: B) e.s e.r = A.length := by
  refine ⟨shR_yes (by simp; omega) (h.asc he rfl rfl), (h.fnd rfl rfl).2, (h.fnd rfl rfl).1, h.pos rfl rfl⟩
theorem mid_getD (A B : List Ent) (e : Ent) : (A ++ e :: B).getD A.length E0 = e := by simp
theorem mid_set (A B : List Ent) (e f : Ent) : (A ++ e :: B).set A.length f = A ++ f :: B := by simp
theorem mid_rm (A B : List Ent) (e : Ent) : (A ++ e :: B).take A.length ++ (A ++ e :: B).drop (A.length + 1) = A ++ B := by
  rw [List.take_left', List.drop_append, List.drop_of_length_le (by omega), show A.length + 1 - A.length = 1 by omega]
  · rfl
  · rfl
end Go.Vd

set_option linter.unusedVariables false
set_option linter.unusedSimpArgs false
set_option maxRecDepth 100000
set_option maxHeartbeats 8000000
namespace Go.Vd
open Go.Proofs
attribute [local irreducible] vc
theorem good_rRight (n : Int) (s : List UInt8) (hs : s.length ≤ 1000000) : GoodP Tryz.prog gl0 66 [.int .i64 n, .str s] (.bool (std.tb fun _ => rr n s)) := by
  refine fn_sound' (T := seatT) (G := gs9) (X := noX) seatT_ok gs9_ok noX_ok noI_ok mixed Tryz.func66 (.one) (fun A => [.int .i64 n, .str s]) (fun A => .bool (A.tb fun _ => rr n s)) fun A hA => ?_
  cbv
  repeat' (first | with_reducible exact True.intro | with_reducible exact dr_ok hA (by kernel_rfl) | with_reducible refine And.intro ?_ ?_ | (intro hc; cbv))
  all_goals (subst hA; simp [std_add, std_sub, std_mul, std_quo, std_rem, std_band, std_bor, std_bxor, std_shl, std_shr, std_eq, std_ne, std_lt, std_le, std_conv, std_not, std_beq, std_bne, std_ite, std_want, std_and2, std_sadd, std_seq, std_sne, std_slt, std_sle, std_sgt, std_sge, std_slen, std_sget, std_scut, std_ofNat, std_toNat, std_nsub, std_nadd, std_lenOf, std_nz, std_nneg, std_inb, std_upto, std_slt63, std_grow, std_imp, std_impN, std_tr, std_tb, std_ti, std_ts, std_tn, std_tp, std_nmin, std_nset, std_fset, std_makes, std_room, std_zeros, std_nilq, std_notq, std_eqi, std_eqn, std_eqb, std_eqs, std_eqv, std_cat, std_lst, std_rset, std_rcopy, std_shift, std_eqr, std_strOf, std_bytesOf, std_isB, std_zOf, zOf_int, std_isI, isI_int, std_getL, std_nmul, std_sOf, sOf_str, std_isS, isS_str, std_fadd, std_fsub, std_fav, std_fsv, std_feq, std_fne, std_flt, std_fle, std_fgt, std_fge, std_fOf, std_fTo, std_fTv] at *)
  all_goals first
    | omega
    | exact hs
    | exact fun h1 h2 h3 => ⟨⟨⟨h1, h2⟩, h3⟩, fun h => ⟨⟨⟨h1, h2⟩, h3⟩, h⟩⟩
    | (rw [rr, if_pos ⟨hc.1.1.1, hc.1.1.2, hc.1.2, hc.2⟩]; done)
    | (rw [rr, if_neg (fun h => by rcases hc with ((hc | hc) | hc) | hc; (rw [hc] at h; exact Bool.noConfusion h.1); (exact h.2.1 hc); (have := h.2.2.1; omega); (have := h.2.2.2 hc.1; omega))]; done)
    | trace_state
noncomputable def c_rRight : Ct := fun A args => match args with
  | [.int .i64 n, .str r] => some (some (A.tp fun _ => r.length ≤ 1000000), .bool (A.tb fun _ => rr n r))
  | _ => none
noncomputable def gt1 : Ar → Pu := addC 66 c_rRight (gs9)
theorem gt1_ok : PuOk Tryz.prog gl0 (gt1 std) := by
  refine addC_ok (gs9_ok) ⟨_, Tryz.func66, rfl, by decide⟩ ?_
  · intro args p r h hp
    unfold c_rRight at h
    split at h <;> cases h
    exact good_rRight _ _ hp
theorem signs2 (s : List UInt8) : signs 2 s = s.all okB := rfl
theorem rr_37 (s : List UInt8) : rr 37 s = (decide (s.length = 12) && s.all okB) := by
  have h : dFind FL 37 = some (2, 12) := rfl
  have e1 : dOk 37 = true := by simp [dOk, h]
  have e2 : dKd 37 = 2 := by simp [dKd, h]
  have e3 : dSz 37 = 12 := by simp [dSz, h]
  unfold rr
  rw [e1, e2, e3, signs2]
  by_cases h : s.length = 12
  · have hne : ¬s = [] := fun e => by rw [e] at h; simp at h
    rw [if_pos ⟨rfl, hne, by omega, fun _ => by omega⟩]
    simp [h]
  · rw [if_neg (fun h' => h (by have := h'.2.2.1; have := h'.2.2.2 (by omega); omega))]
    simp [h]
theorem good_rkRight (s : Int) (r : List UInt8) (hr : r.length ≤ 1000000) : GoodP Tryz.prog gl0 48 [sKey std s r] (.bool (std.tb fun _ => keyOk s r)) := by
  refine fn_sound' (T := seatT) (G := gt1) (X := noX) seatT_ok gt1_ok noX_ok noI_ok mixed Tryz.func48 (.one) (fun A => [sKey A s r]) (fun A => .bool (A.tb fun _ => keyOk s r)) fun A hA => ?_
  cbv
  repeat' (first | with_reducible exact True.intro | with_reducible exact dr_ok hA (by kernel_rfl) | with_reducible refine And.intro ?_ ?_ | (intro hc; cbv))
  all_goals (subst hA; simp [std_add, std_sub, std_mul, std_quo, std_rem, std_band, std_bor, std_bxor, std_shl, std_shr, std_eq, std_ne, std_lt, std_le, std_conv, std_not, std_beq, std_bne, std_ite, std_want, std_and2, std_sadd, std_seq, std_sne, std_slt, std_sle, std_sgt, std_sge, std_slen, std_sget, std_scut, std_ofNat, std_toNat, std_nsub, std_nadd, std_lenOf, std_nz, std_nneg, std_inb, std_upto, std_slt63, std_grow, std_imp, std_impN, std_tr, std_tb, std_ti, std_ts, std_tn, std_tp, std_nmin, std_nset, std_fset, std_makes, std_room, std_zeros, std_nilq, std_notq, std_eqi, std_eqn, std_eqb, std_eqs, std_eqv, std_cat, std_lst, std_rset, std_rcopy, std_shift, std_eqr, std_strOf, std_bytesOf, std_isB, std_zOf, zOf_int, std_isI, isI_int, std_getL, std_nmul, std_sOf, sOf_str, std_isS, isS_str, std_fadd, std_fsub, std_fav, std_fsv, std_feq, std_fne, std_flt, std_fle, std_fgt, std_fge, std_fOf, std_fTo, std_fTv] at *)
  all_goals first
    | exact fun h => ⟨h, hr⟩
    | exact hr
    | (rw [rr_37]; unfold keyOk; (first | rfl | (rw [Bool.eq_iff_iff]; simp; done)))
    | trace_state
noncomputable def c_rkRight : Ct := fun A args => match args with
  | [.agg [.int .u32 s, .str r]] => some (some (A.tp fun _ => r.length ≤ 1000000), .bool (A.tb fun _ => keyOk s r))
  | _ => none
theorem good_rkOrder (s t : Int) (r q : List UInt8) : GoodP Tryz.prog gl0 28 [sKey std s r, sKey std t q] (.int .i64 (std.ti fun _ => ordK s r t q)) := by
  refine fn_sound' (T := seatT) (G := noC) (X := noX) seatT_ok noC_ok noX_ok noI_ok mixed Tryz.func28 (.one) (fun A => [sKey A s r, sKey A t q]) (fun A => .int .i64 (A.ti fun _ => ordK s r t q)) fun A hA => ?_
  cbv
  repeat' (first | with_reducible exact True.intro | with_reducible exact dr_ok hA (by kernel_rfl) | with_reducible refine And.intro ?_ ?_ | (intro hc; cbv))
  all_goals (subst hA; simp [std_add, std_sub, std_mul, std_quo, std_rem, std_band, std_bor, std_bxor, std_shl, std_shr, std_eq, std_ne, std_lt, std_le, std_conv, std_not, std_beq, std_bne, std_ite, std_want, std_and2, std_sadd, std_seq, std_sne, std_slt, std_sle, std_sgt, std_sge, std_slen, std_sget, std_scut, std_ofNat, std_toNat, std_nsub, std_nadd, std_lenOf, std_nz, std_nneg, std_inb, std_upto, std_slt63, std_grow, std_imp, std_impN, std_tr, std_tb, std_ti, std_ts, std_tn, std_tp, std_nmin, std_nset, std_fset, std_makes, std_room, std_zeros, std_nilq, std_notq, std_eqi, std_eqn, std_eqb, std_eqs, std_eqv, std_cat, std_lst, std_rset, std_rcopy, std_shift, std_eqr, std_strOf, std_bytesOf, std_isB, std_zOf, zOf_int, std_isI, isI_int, std_getL, std_nmul, std_sOf, sOf_str, std_isS, isS_str, std_fadd, std_fsub, std_fav, std_fsv, std_feq, std_fne, std_flt, std_fle, std_fgt, std_fge, std_fOf, std_fTo, std_fTv, bytesLess_eq] at *)
  all_goals first
    | omega
    | (rw [ordK_eq, if_pos (by assumption)]; done)
    | (rw [ordK_eq, if_neg (fun h => (by assumption : s = t → ¬r = q) h.1 h.2), if_pos hc]; done)
    | (rw [ordK_eq, if_neg (fun h => (by assumption : s = t → ¬r = q) h.1 h.2), if_pos (by rcases Int.lt_or_le s t with h | h; (exact .inl h); exact .inr (hc h))]; done)
    | (rw [ordK_eq, if_neg (fun h => (by assumption : s = t → ¬r = q) h.1 h.2), if_neg (by rintro (h | h); (exact absurd h (by omega)); exact hc.2 h.1 h.2)]; done)
    | trace_state
noncomputable def c_rkOrder : Ct := fun A args => match args with
  | [.agg [.int .u32 s, .str r], .agg [.int .u32 t, .str q]] => some (none, .int .i64 (A.ti fun _ => ordK s r t q))
  | _ => none
noncomputable def gt2 : Ar → Pu := addC 48 c_rkRight (addC 28 c_rkOrder (gt1))
theorem gt2_ok : PuOk Tryz.prog gl0 (gt2 std) := by
  refine addC_ok (addC_ok (gt1_ok) ⟨_, Tryz.func28, rfl, by decide⟩ ?_) ⟨_, Tryz.func48, rfl, by decide⟩ ?_
  · intro args p r h hp
    unfold c_rkOrder at h
    split at h <;> cases h
    exact good_rkOrder _ _ _ _
  · intro args p r h hp
    unfold c_rkRight at h
    split at h <;> cases h
    exact good_rkRight _ _ hp
def eP (pan : List UInt8) (am : Int) : Prop := (pan.length : Int) ≤ 19 ∧ lFine pan = true ∧ am < 1000000000000
theorem eR_P {e : Ent} (h : eR e = true) : keyOk e.s e.r = true ∧ eP e.pan e.am ∧ eSt e = true := by
  unfold eR at h
  simp only [Bool.and_eq_true, decide_eq_true_eq] at h
  exact ⟨h.1, ⟨h.2.1, h.2.2.1, h.2.2.2.1⟩, h.2.2.2.2⟩
theorem eSt_cases {e : Ent} (h : eSt e = true) : (e.st = 1 ∧ e.code = [] ∧ e.tr = 0 ∧ e.ca = 0) ∨ (e.st = 2 ∧ e.code = [48, 48] ∧ e.tr = 0 ∧ e.ca = 0) ∨ (e.st = 3 ∧ ¬e.code = [48, 48] ∧ rr 39 e.code = true ∧ e.tr = 0 ∧ e.ca = 0) ∨ ((e.st = 4 ∨ e.st = 5 ∨ e.st = 6) ∧ rr 39 e.code = true ∧ (e.ca = 1 ∨ e.ca = 2) ∧ 0 ≤ e.tr ∧ e.tr ≤ 16) := by
  unfold eSt at h
  split at h
  · simp only [unT, Bool.and_eq_true, decide_eq_true_eq] at h
    exact .inl ⟨by assumption, h⟩
  · split at h
    · simp only [unT, Bool.and_eq_true, decide_eq_true_eq] at h
      exact .inr (.inl ⟨by assumption, h⟩)
    · split at h
      · simp only [unT, Bool.and_eq_true, decide_eq_true_eq] at h
        exact .inr (.inr (.inl ⟨by assumption, h⟩))
      · split at h
        · simp only [tuR, Bool.and_eq_true, Bool.or_eq_true, decide_eq_true_eq] at h
          exact .inr (.inr (.inr ⟨by assumption, h⟩))
        · cases h
theorem io1 {a b : Prop} : (a → ¬b) → ¬a ∨ ¬b := fun h => by
  by_cases ha : a
  · exact .inr (h ha)
  · exact .inl ha
theorem io2 {a b c d : Prop} : (a → ¬b) → (c → ¬d) → (¬a ∨ ¬b) ∧ (¬c ∨ ¬d) := fun h h' => ⟨io1 h, io1 h'⟩
theorem io3 {a b c d e f : Prop} : (a → ¬b) → (c → ¬d) → (e → ¬f) → ((¬a ∨ ¬b) ∧ (¬c ∨ ¬d)) ∧ (¬e ∨ ¬f) := fun h h' h2 => ⟨⟨io1 h, io1 h'⟩, io1 h2⟩
theorem good_r10Re (s st am tr ca : Int) (r pan code : List UInt8) (hr : r.length ≤ 1000000) (hp : pan.length ≤ 100000) (hcc : code.length ≤ 1000000) : GoodP Tryz.prog gl0 38 [.agg [.int .u32 s, .str r, .int .i64 st, .str pan, .int .u64 am, .str code, .int .i64 tr, .int .i64 ca]] (.bool (std.tb fun _ => eR ⟨s, r, st, pan, am, code, tr, ca⟩)) := by
  refine fn_sound' (T := seatT) (G := gt2) (X := noX) seatT_ok gt2_ok noX_ok noI_ok mixed Tryz.func38 (.one) (fun A => [.agg [.int .u32 s, .str r, .int .i64 st, .str pan, .int .u64 am, .str code, .int .i64 tr, .int .i64 ca]]) (fun A => .bool (A.tb fun _ => eR ⟨s, r, st, pan, am, code, tr, ca⟩)) fun A hA => ?_
  cbv
  repeat' (first | with_reducible exact True.intro | with_reducible exact dr_ok hA (by kernel_rfl) | with_reducible refine And.intro ?_ ?_ | (intro hc; cbv))
  all_goals (subst hA; try simp [-List.getD_eq_getElem?_getD, std_add, std_sub, std_mul, std_quo, std_rem, std_band, std_bor, std_bxor, std_shl, std_shr, std_eq, std_ne, std_lt, std_le, std_conv, std_not, std_beq, std_bne, std_ite, std_want, std_and2, std_sadd, std_seq, std_sne, std_slt, std_sle, std_sgt, std_sge, std_slen, std_sget, std_scut, std_ofNat, std_toNat, std_nsub, std_nadd, std_lenOf, std_nz, std_nneg, std_inb, std_upto, std_slt63, std_grow, std_imp, std_impN, std_tr, std_tb, std_ti, std_ts, std_tn, std_tp, std_nmin, std_nset, std_fset, std_makes, std_room, std_zeros, std_nilq, std_notq, std_eqi, std_eqn, std_eqb, std_eqs, std_eqv, std_cat, std_lst, std_rset, std_rcopy, std_shift, std_eqr, std_strOf, std_bytesOf, std_isB, std_zOf, zOf_int, std_isI, isI_int, std_getL, std_nmul, std_sOf, sOf_str, std_isS, isS_str, std_fadd, std_fsub, std_fav, std_fsv, std_feq, std_fne, std_flt, std_fle, std_fgt, std_fge, std_fOf, std_fTo, std_fTv] at *)
  all_goals first
    | exact hr
    | exact io1
    | exact io2
    | exact io3
    | (exact eR_no (by rcases hc with ((hc | hc) | hc) | hc; exact .inl (.inl (.inl hc)); exact .inl (.inr hc); exact .inl (.inl (.inr hc)); exact .inr hc))
    | (have h3 : (st = 1 ∨ st = 2) ∨ st = 3 := by assumption
       have h4 : ¬tr = 0 ∨ ¬ca = 0 := hc
       rw [Bool.eq_false_iff]
       intro h
       have h5 := eSt_cases (eR_P h).2.2
       simp only at h5
       rcases h5 with h5 | h5 | h5 | h5
       · omega
       · omega
       · omega
       · omega)
    | (have h3 : (st = 1 ∨ st = 2) ∨ st = 3 := by assumption
       have hq : ((keyOk s r = true ∧ lFine pan = true) ∧ (pan.length : Int) ≤ 19) ∧ am < 1000000000000 := by assumption
       rw [eR_st (e := ⟨s, r, st, pan, am, code, tr, ca⟩) ⟨⟨⟨hq.1.1.1, hq.1.2⟩, hq.1.1.2⟩, hq.2⟩, hc.1, hc.2]
       rcases h3 with (rfl | rfl) | rfl
       · cases code <;> simp [eSt, unT]
       · rw [Bool.eq_iff_iff]; simp [eSt, unT]
       · rw [Bool.eq_iff_iff]; simp [eSt, unT])
    | (have hq : ((keyOk s r = true ∧ lFine pan = true) ∧ (pan.length : Int) ≤ 19) ∧ am < 1000000000000 := by assumption
       rw [eR_st (e := ⟨s, r, st, pan, am, code, tr, ca⟩) ⟨⟨⟨hq.1.1.1, hq.1.2⟩, hq.1.1.2⟩, hq.2⟩]
       unfold eSt
       rw [if_neg hc.1.1, if_neg hc.1.2, if_neg hc.2]
       by_cases h3 : st = 4 ∨ st = 5 ∨ st = 6
       · rw [if_pos h3, decide_eq_true (p := 3 < st) (by omega), decide_eq_true (p := st < 7) (by omega)]
         cases rr 39 code
         · rfl
         · rw [Bool.eq_iff_iff]
           simp [tuR]
           omega
       · rw [if_neg h3, Bool.eq_false_iff]
         intro h
         simp only [Bool.and_eq_true, decide_eq_true_eq] at h
         have h4 := h.1.1.1.1.1
         omega)
    | ((repeat' (first | assumption | (intro _) | (refine And.intro ?_ ?_))) <;> done)
    | trace_state
noncomputable def c_r10Re : Ct := fun A args => match args with
  | [.agg [.int .u32 s, .str r, .int .i64 st, .str pan, .int .u64 am, .str code, .int .i64 tr, .int .i64 ca]] => some (some (A.tp fun _ => r.length ≤ 1000000 ∧ pan.length ≤ 100000 ∧ code.length ≤ 1000000), .bool (A.tb fun _ => eR ⟨s, r, st, pan, am, code, tr, ca⟩))
  | _ => none
noncomputable def gt3 : Ar → Pu := addC 38 c_r10Re (gt2)
theorem gt3_ok : PuOk Tryz.prog gl0 (gt3 std) := by
  refine addC_ok (gt2_ok) ⟨_, Tryz.func38, rfl, by decide⟩ ?_
  · intro args p r h hp
    unfold c_r10Re at h
    split at h <;> cases h
    exact good_r10Re _ _ _ _ _ _ _ _ hp.1 hp.2.1 hp.2.2
end Go.Vd

