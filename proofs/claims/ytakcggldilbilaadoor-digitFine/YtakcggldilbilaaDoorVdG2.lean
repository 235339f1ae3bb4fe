/- The digits' functions: from the end (a range over a function). -/
import Derived.RangeFuncNested
import Derived.RangeFuncBound
import Derived.RangeFuncCalls
import Derived.RangeFuncLeaves
import Derived.Shelf.Abstract
import Derived.Shelf.RegionOpen
import Derived.WalkKit
import Derived.OwnWalkIn
import Derived.TacticsInMore
import Derived.LoopNIn
import Derived.LoopIn
import Derived.Test.YtakcggldilbilaaDoorVdG1
set_option linter.unusedVariables false
set_option linter.unusedSimpArgs false
namespace Go.Proofs
open Go.RowKit Go.Shelf
attribute [local go_sem] Oper.semAt_some

theorem fe_take {L : List UInt8} {k : Nat} (h : k < L.length) : L.reverse.take k ++ [L.getD (L.length - 1 - k) 0] = L.reverse.take (k + 1) := by
  rw [← Vd.rev_getD (by omega), show L.length - 1 - (L.length - 1 - k) = k by omega]
  exact Vd.take_snoc (by rw [List.length_reverse]; exact h)

/-- The box is as it was. -/
def KBs (Bs : Nat) (A B : World) : Prop := ∀ v, A.cell? ⟨Bs, 0, none⟩ = some v → B.cell? ⟨Bs, 0, none⟩ = some v
theorem ba_get {L : List UInt8} {i : Nat} (h : i < (ByteArray.mk L.toArray).size) : (ByteArray.mk L.toArray)[i]'h = L.getD i 0 := by
  have h1 : i < L.length := by simpa [ByteArray.size] using h
  rw [List.getD_eq_getElem?_getD, List.getElem?_eq_getElem h1]
  rfl

set_option maxRecDepth 100000 in
set_option maxHeartbeats 2000000 in
theorem fromEnd1_in (F : Fence) (n : Nat) (h76 : F.fn 172) (hro : F.round = none) (hn : 1 ≤ n) (l Bs : Nat) (L : List UInt8) (hL : L.length ≤ 1000000) (J Jx : List UInt8 → World → Prop)
    (hY : ∀ pre x W, J pre W → pre.length < L.length → YieldAt F (n - 1) Tryd.prog l #[.int .u8 (x.toNat : Int)] W fun e W' =>
      (e = .returned (.bool true) ∧ J (pre ++ [x]) W' ∧ KBs Bs W W') ∨ (e = .returned (.bool false) ∧ Jx (pre ++ [x]) W'))
    (W : World) (hBs : W.cell? ⟨Bs, 0, none⟩ = some (.string ⟨L.toArray⟩)) (h0 : J [] W) :
    CallsIn F n Tryd.prog 172 #[.func (.yield l) #[] #[], .pointer (some ⟨Bs, 0, none⟩)] W fun e W' => (∃ v, e = .returned v) ∧
      ((∃ ys, ys = L.reverse ∧ J ys W') ∨ (∃ pre, pre <+: L.reverse ∧ Jx pre W')) := by
  refine callsIn_of_wp Tryd.func172 rfl h76 ?_ hro
  simp only [Tryd.ntmps172, List.size_toArray, List.length_cons, List.length_nil, Nat.reduceAdd, Nat.reduceSub, Array.replicate_succ, Array.replicate_zero, List.push_toArray, List.append_toArray, List.nil_append, List.cons_append]
  gi_wp2
  gi_loopw [3] (fun i wr => ∃ k : Nat, k ≤ L.length ∧ i = .int .i64 ((L.length : Int) - 1 - k) ∧ J (L.reverse.take k) wr ∧ wr.cell? ⟨Bs, 0, none⟩ = some (.string ⟨L.toArray⟩))
    (fun i _ => (intOf i + 1).toNat)
  case atStart => exact ⟨0, Nat.zero_le _, by simp, h0, hBs⟩
  case round =>
    obtain ⟨k, hk, rfl, hJs, hs⟩ := hrel
    by_cases hlt : k < L.length
    · have hx : L.length - 1 - k < (ByteArray.mk L.toArray).size := by simp [ByteArray.size]; omega
      obtain ⟨fn, tmps, assign, body, hy, hR⟩ := hY _ ((ByteArray.mk L.toArray)[L.length - 1 - k]'hx) wr hJs (by rw [List.length_take]; simp; omega)
      have h1 : (0 : Int) ≤ (L.length : Int) - 1 - k := by omega
      have ht : L.reverse.take k ++ [(ByteArray.mk L.toArray)[L.length - 1 - k]'hx] = L.reverse.take (k + 1) := by rw [ba_get]; exact fe_take hlt
      gi_wp2
      refine hR.mono ?_
      rintro e W3 (⟨rfl, hJ3, hk3⟩ | ⟨rfl, hJx3⟩)
      · rw [ht] at hJ3
        gi_wp2
        go_roundw
        case rel => exact ⟨k + 1, by omega, by first | rfl | (congr 1; omega) | (simp; omega), hJ3, hk3 _ hs⟩
        case measure => simp [intOf]; omega
      · rw [ht] at hJx3
        gi_wp2
        refine bodyPost_ret (results_none rfl _ _ _) rfl ?_
        exact ⟨⟨_, rfl⟩, .inr ⟨_, ⟨L.reverse.drop (k + 1), List.take_append_drop _ _⟩, hJx3⟩⟩
    · obtain rfl : k = L.length := by omega
      gi_wp2
      have hJf : J L.reverse wr := by rw [List.take_of_length_le (by simp)] at hJs; exact hJs
      go_end0
      exact ⟨⟨_, rfl⟩, .inl ⟨_, rfl, hJf⟩⟩

/-- A new box: what it holds; it stays so beside a newer one. -/
theorem box_new (W : World) (v : Value) (t : TypeId) : (W.alloc (.cells #[v] t)).cell? ⟨W.heap.size, 0, none⟩ = some v ∧ (W.alloc (.cells #[v] t)).frozen? ⟨W.heap.size, 0, none⟩ = false := ⟨by simp, by simp⟩
theorem box_old {W : World} {a : Addr} {v : Value} (o : Obj) (h : W.cell? a = some v) : (W.alloc o).cell? a = some v := cell_kept h (World.grownBy_alloc W o none) (fun r e => by cases e)
theorem box_soft {W : World} {a : Addr} {v : Value} (o : Obj) (h : W.cell? a = some v) (hf : W.frozen? a = false) : (W.alloc o).frozen? a = false := (frozen_kept h (World.grownBy_alloc W o none) (fun r e => by cases e)).trans hf

set_option maxHeartbeats 1000000 in
theorem fromEnd_in (F : Fence) (n : Nat) (h58 : F.fn 126) (hro : F.round = none) (s : ByteArray) (w : World) :
    CallsIn F n Tryd.prog 126 #[.string s] w fun e w' => e = .returned (.func (.func 172) #[] #[.pointer (some ⟨w.heap.size, 0, none⟩)]) ∧ w' = w.alloc (.cells #[.string s] 9) := by
  refine callsIn_of_wp Tryd.func126 rfl h58 ?_ hro
  simp only [Tryd.ntmps126, List.size_toArray, List.length_cons, List.length_nil, Nat.reduceAdd, Nat.reduceSub, Array.replicate_succ, Array.replicate_zero, List.push_toArray, List.append_toArray, List.nil_append, List.cons_append]
  gi_wp2
  go_ret
  exact ⟨rfl, rfl⟩

theorem fromEnd_stops (F : Fence) (n : Nat) (h76 : F.fn 172) (hro : F.round = none) (hn : 1 ≤ n) (Bs : Nat) (L : List UInt8) (hL : L.length ≤ 1000000) (w : World) (hBs : Bs < w.heap.size) (hc : w.cell? ⟨Bs, 0, none⟩ = some (.string ⟨L.toArray⟩)) :
    SeqStopsK F n Tryd.prog 172 #[.pointer (some ⟨Bs, 0, none⟩)] (fun x : UInt8 => #[Value.int .u8 (x.toNat : Int)]) (KBs Bs) (fun ys => ys = L.reverse) (fun pre => pre <+: L.reverse) L.length w := fun l J Jx W hW _ _ hY h0 => by
  have hc' := (hW.cell (p := ⟨Bs, 0, none⟩) hBs).trans hc
  exact fromEnd1_in F n h76 hro hn l Bs L hL J Jx hY W hc' h0

set_option maxHeartbeats 1000000 in
theorem weight_in (F : Fence) (n : Nat) (h59 : F.fn 127) (hro : F.round = none) (d : Nat) (hd : d < 256) (t : Bool) (w : World) :
    CallsIn F n Tryd.prog 127 #[.int .i64 (d : Int), .bool t] w fun e w' => e = .returned (.int .i64 (Vd.lW d t : Int)) ∧ w' = w := by
  refine callsIn_of_wp Tryd.func127 rfl h59 ?_ hro
  simp only [Tryd.ntmps127, List.size_toArray, List.length_cons, List.length_nil, Nat.reduceAdd, Nat.reduceSub, Array.replicate_succ, Array.replicate_zero, List.push_toArray, List.append_toArray, List.nil_append, List.cons_append]
  have e1 : Vd.lW d false = d := rfl
  cases t
  · gi_wp2
    go_ret
    exact ⟨by rw [e1]; rfl, rfl⟩
  · by_cases h : 4 < d
    · have e2 : ((Vd.lW d true : Nat) : Int) = 2 * (d : Int) - 9 := by
        have e3 : Vd.lW d true + 9 = 2 * d := by (simp only [Vd.lW, if_true]; rw [if_pos (by omega)]; omega)
        omega
      gi_wp2
      go_ret
      exact ⟨by rw [e2]; rfl, rfl⟩
    · have e2 : ((Vd.lW d true : Nat) : Int) = 2 * (d : Int) := by
        have e3 : Vd.lW d true = 2 * d := by (simp only [Vd.lW, if_true]; rw [if_neg (by omega)])
        omega
      gi_wp2
      go_ret
      exact ⟨by rw [e2]; rfl, rfl⟩

/-- The weight of whatever byte. -/
def dig8 (b : UInt8) : Nat := (b.toNat + 208) % 256
def lSum8 : List UInt8 → Bool → Nat
  | [], _ => 0
  | b :: R, t => Vd.lW (dig8 b) t + lSum8 R (!t)
theorem lSum8_snoc : ∀ (R : List UInt8) (b : UInt8) (t : Bool), lSum8 (R ++ [b]) t = lSum8 R t + Vd.lW (dig8 b) (t ^^ Vd.odd R.length)
  | [], b, t => by simp [lSum8, Vd.odd]
  | c :: R, b, t => by
    simp only [List.cons_append, lSum8, lSum8_snoc R b, List.length_cons, Vd.odd]
    cases t <;> simp <;> omega
theorem lW_le (d : Nat) (t : Bool) (h : d < 256) : Vd.lW d t ≤ 510 := by
  unfold Vd.lW; cases t <;> simp <;> (try split) <;> omega
theorem lSum8_le : ∀ (R : List UInt8) (t : Bool), lSum8 R t ≤ 510 * R.length
  | [], _ => by simp [lSum8]
  | b :: R, t => by
    have h1 := lSum8_le R (!t)
    have h2 := lW_le (dig8 b) t (Nat.mod_lt _ (by omega))
    simp only [lSum8, List.length_cons]
    omega
theorem lSum8_eq : ∀ (R : List UInt8) (t : Bool), (∀ b ∈ R, Vd.isDb b = true) → lSum8 R t = Vd.lSum R t
  | [], _, _ => rfl
  | b :: R, t, h => by
    have hb := Vd.isDb_iff.1 (h b (by simp))
    have e : dig8 b = Vd.dig b := by unfold dig8 Vd.dig; omega
    simp only [lSum8, Vd.lSum, e, lSum8_eq R (!t) fun c hc => h c (by simp [hc])]

theorem sum_end {t : Bool} {w W : World} {pre : List UInt8} {x : UInt8} {v0 v1 u0 u1 : Value} (hc0 : W.cell? ⟨w.heap.size, 0, none⟩ = some u0) (hf0 : W.frozen? ⟨w.heap.size, 0, none⟩ = false) (hc1 : W.cell? ⟨w.heap.size + 1, 0, none⟩ = some u1) (hf1 : W.frozen? ⟨w.heap.size + 1, 0, none⟩ = false)
    (hB : Below w.heap.size w W) (W' : World) (hW' : W' = ((W.setCell ⟨w.heap.size + 1, 0, none⟩ v1).setCell ⟨w.heap.size, 0, none⟩ v0).drew) :
    KeepsOthers W W' ∧ KBs (w.heap.size + 1 + 1) W W' ∧ ((W'.cell? ⟨w.heap.size, 0, none⟩ = some v0 ∧ W'.frozen? ⟨w.heap.size, 0, none⟩ = false) ∧ (W'.cell? ⟨w.heap.size + 1, 0, none⟩ = some v1 ∧ W'.frozen? ⟨w.heap.size + 1, 0, none⟩ = false)) ∧ Below w.heap.size w W' := by
  subst hW'
  have hne : (⟨w.heap.size, 0, none⟩ : Addr) ≠ ⟨w.heap.size + 1, 0, none⟩ := fun e => by injection e; omega
  have hn0 : (⟨w.heap.size, 0, none⟩ : Addr) ≠ ⟨w.heap.size + 1 + 1, 0, none⟩ := fun e => by injection e; omega
  have hn1 : (⟨w.heap.size + 1, 0, none⟩ : Addr) ≠ ⟨w.heap.size + 1 + 1, 0, none⟩ := fun e => by injection e; omega
  have hk : (W.setCell ⟨w.heap.size + 1, 0, none⟩ v1).cell? ⟨w.heap.size, 0, none⟩ = some u0 := by rw [World.cell?_setCell_other _ _ _ _ (Ne.symm hne)]; exact hc0
  refine ⟨((KeepsOthers.setCell _ _ _).trans (KeepsOthers.setCell _ _ _)).trans (KeepsOthers.drew _), fun v hv => ?_, ⟨⟨?_, ?_⟩, ?_, ?_⟩, ?_⟩
  · rw [World.cell?_drew, World.cell?_setCell_other _ _ _ _ hn0, World.cell?_setCell_other _ _ _ _ hn1]; exact hv
  · rw [World.cell?_drew]; exact World.cell?_setCell_same _ _ _ hk
  · rw [frozen_drew_own, World.frozen?_setCell, World.frozen?_setCell]; exact hf0
  · rw [World.cell?_drew, World.cell?_setCell_other _ _ _ _ hne]; exact World.cell?_setCell_same _ _ _ hc1
  · rw [frozen_drew_own, World.frozen?_setCell, World.frozen?_setCell]; exact hf1
  · exact ((hB.setCell (p := ⟨w.heap.size + 1, 0, none⟩) (by simp) _).setCell (p := ⟨w.heap.size, 0, none⟩) (Nat.le_refl _) _).drew

set_option maxRecDepth 100000 in
set_option maxHeartbeats 4000000 in
theorem sum_in (F : Fence) (n : Nat) (h38 : F.fn 71) (h58 : F.fn 126) (h76 : F.fn 172) (h59 : F.fn 127) (hro : F.round = none) (hn : 3 ≤ n) (L : List UInt8) (hL : L.length ≤ 1000000) (t : Bool) (w : World) :
    CallsIn F n Tryd.prog 71 #[.string ⟨L.toArray⟩, .bool t] w fun e w' => e = .returned (.int .i64 (lSum8 L.reverse t : Int)) ∧ Below w.heap.size w w' := by
  have h1 : 1 ≤ n := by omega
  refine callsIn_of_wp_marks Tryd.func71 rfl h38 ?_ hro
  simp only [Tryd.ntmps71, List.size_toArray, List.length_cons, List.length_nil, Nat.reduceAdd, Nat.reduceSub, Array.replicate_succ, Array.replicate_zero, List.push_toArray, List.append_toArray, List.nil_append, List.cons_append]
  gi_wp2_with (gi_at_call 126; refine (fromEnd_in F (n - 1) h58 hro _ _).mono ?_; rintro e w' ⟨rfl, rfl⟩)
  have c0 := box_new w (.bool t) 4
  have c1 := box_new (w.alloc (.cells #[.bool t] 4)) (.int .i64 0) 3
  have c2 := box_new ((w.alloc (.cells #[.bool t] 4)).alloc (.cells #[.int .i64 0] 3)) (.string ⟨L.toArray⟩) 9
  simp only [World.size_alloc] at c1 c2
  have hB0 : Below w.heap.size w (((w.alloc (.cells #[.bool t] 4)).alloc (.cells #[.int .i64 0] 3)).alloc (.cells #[.string ⟨L.toArray⟩] 9)) := (((Below.refl _ w).alloc (Nat.le_refl _) _).alloc (by simp) _).alloc (by simp; omega) _
  refine wpIn_rangeFunc_ownF hro h1 (gf := 172) (lb := #[.pointer (some ⟨w.heap.size + 1 + 1, 0, none⟩)]) rfl h76 (enters_of Tryd.func172 (by kernel_rfl) rfl)
    (fromEnd_stops F (n - 1) h76 hro (by omega) (w.heap.size + 1 + 1) L hL _ (by simp) c2.1) (fun h k v hv => k v (h v hv)) (fun W l o o' _ h0 hc _ v hv => cell_kept hv (grownBy_putObj' _ l o') (fun r e => by cases e; exact ⟨_, h0, hc⟩)) (Below.refl _ _) (fun _ => rfl)
    (fun pre W => ((W.cell? ⟨w.heap.size, 0, none⟩ = some (.bool (t ^^ Vd.odd pre.length)) ∧ W.frozen? ⟨w.heap.size, 0, none⟩ = false) ∧ (W.cell? ⟨w.heap.size + 1, 0, none⟩ = some (.int .i64 (lSum8 pre t : Int)) ∧ W.frozen? ⟨w.heap.size + 1, 0, none⟩ = false)) ∧ Below w.heap.size w W)
    (fun _ _ _ => False)
    (OwnFrom.and (Own.from (fun s A B row hs hg hr => ⟨⟨cell_kept hs.1.1 hg hr, (frozen_kept hs.1.1 hg hr).trans hs.1.2⟩, cell_kept hs.2.1 hg hr, (frozen_kept hs.2.1 hg hr).trans hs.2.2⟩) _) (ownFrom_below (Nat.le_refl _) (by simp; omega)))
    (fun _ _ _ _ _ hs _ _ => hs)
    ⟨⟨⟨by rw [show (t ^^ Vd.odd ([] : List UInt8).length) = t by simp [Vd.odd]]; exact box_old _ (box_old _ c0.1), box_soft _ (box_old _ c0.1) (box_soft _ c0.1 c0.2)⟩, box_old _ c1.1, box_soft _ c1.1 c1.2⟩, hB0⟩
    (fun x => { tmps := #[.string ⟨L.toArray⟩, .bool t, undef, .pointer (some ⟨w.heap.size, 0, none⟩), .int .i64 0, .pointer (some ⟨w.heap.size + 1, 0, none⟩), .int .u8 (x.toNat : Int), .string ⟨L.toArray⟩, .func (.func 172) #[] #[.pointer (some ⟨w.heap.size + 1 + 1, 0, none⟩)], .int .u8 (x.toNat : Int), undef, undef, undef, undef, undef, undef, undef, undef, undef, undef], defers := [] }) ?assign ?body ?done ?stop
  case assign =>
    intro l x W K hK
    gi_wp2
    exact hK
  case body =>
    rintro l pre x W ⟨⟨⟨hc0, hf0⟩, hc1, hf1⟩, hB⟩ hlen
    have hd : 1 ≤ n - 1 - 1 := by omega
    have hmx : Tryd.prog.follows .mixedOrders = true := by kernel_rfl
    have hle := lSum8_le pre t
    have hd8 : dig8 x < 256 := Nat.mod_lt _ (by omega)
    have hlw := lW_le (dig8 x) (t ^^ Vd.odd pre.length) hd8
    have hsum : wrap64 ((lSum8 pre t : Int) + (Vd.lW (dig8 x) (t ^^ Vd.odd pre.length) : Int)) = (lSum8 (pre ++ [x]) t : Int) := by
      rw [lSum8_snoc]
      unfold wrap64
      omega
    have hodd : (!(t ^^ Vd.odd pre.length)) = (t ^^ Vd.odd (pre ++ [x]).length) := by
      rw [List.length_append, List.length_singleton, Vd.odd]
      cases t <;> simp
    have hw8 : IntKind.i64.wrap (IntKind.u8.wrap ((x.toNat : Int) - 48)) = (dig8 x : Int) := by
      have hx := x.toNat_lt
      rw [IntKind.wrap_u8, IntKind.wrap_i64]
      unfold dig8
      omega
    gi_wp2
    gi_region_with_o (gi_at_call 127; refine (CallsIn.inRound l (weight_in F _ h59 hro (dig8 x) hd8 _ _)).mono ?_; rintro e w' ⟨rfl, rfl⟩)
    all_goals gi_wp2
    all_goals (try go_bits)
    all_goals (have he : ((lSum8 pre t : Int) + (Vd.lW (dig8 x) (t ^^ Vd.odd pre.length) : Int)) = (lSum8 (pre ++ [x]) t : Int) := by rw [lSum8_snoc]; omega)
    all_goals (have hbt : (t ^^ Vd.odd (pre.length + 1)) = (t ^^ Vd.odd (pre ++ [x]).length) := by simp)
    all_goals (try rw [hsum])
    all_goals (try rw [he])
    all_goals (try rw [hodd])
    all_goals (try rw [hbt])
    all_goals (exact sum_end (t := t) (pre := pre) (x := x) hc0 hf0 hc1 hf1 hB _ rfl)
  case done =>
    rintro D ys W hD rfl ⟨⟨_, hc1, _⟩, hB⟩ hK
    gi_wp2
    refine ⟨by simp, .inl ⟨_, _, rfl, run_takeDeferred hK, ?_⟩⟩
    exact ⟨_, results_tmp rfl _ _ _, rfl, hB.trans (belowK_b (w := w) (Nat.le_refl _) W D _ _ (by simp at hD; omega) hK rfl rfl)⟩
  case stop =>
    rintro D c pre W _ _ h _
    exact h.elim
end Go.Proofs
