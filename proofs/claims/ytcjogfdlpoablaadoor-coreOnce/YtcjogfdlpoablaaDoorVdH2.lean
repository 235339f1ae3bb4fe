/- The fields' functions: isText, by hand (a range over a text). -/
import Derived.Laws.RangeString
import Derived.Laws.RangeAny
import Derived.WalkKit
import Derived.LoopTactic
import Derived.Test.YtcjogfdlpoablaaDoorVdH1
set_option linter.unusedVariables false
set_option linter.unusedSimpArgs false
namespace Go.Proofs
open Go.RowKit
theorem ba_byte {s : ByteArray} {i : Nat} (h : i < s.size) : s[i]'h = s.data.toList.getD i 0 := by
  rw [List.getD_eq_getElem?_getD, List.getElem?_eq_getElem (by simpa using h)]
  simp
  rfl
set_option maxRecDepth 100000 in
set_option maxHeartbeats 2000000 in
theorem isText_walk (s : ByteArray) (w : World) :
    Calls Tryd.prog 157 #[.string s] w fun e w' => e = .returned (.bool (s.data.toList.all Vd.okB)) ∧ ∃ pos, w' = w.iter s pos := by
  have hsz : s.data.toList.length = s.size := by simp
  go_enter Tryd.func157, Tryd.ntmps157
  go_wp2
  go_loopw [4] (fun _ w' => ∃ pos : Nat, w' = w.iter s pos ∧ pos ≤ s.size ∧ (s.data.toList.take pos).all Vd.okB = true) (fun _ w' => s.size - w'.iterPos w.heap.size)
  case atStart => exact ⟨0, rfl, by omega, by simp⟩
  case round =>
    obtain ⟨pos, rfl, hle, hall⟩ := hrel
    by_cases hp : pos < s.size
    · by_cases ha : (s[pos]'hp).toNat < 128
      · have hp' : pos < s.data.size := hp
        have hnx : ∀ ty, (Instr.next (.pointer (some ⟨w.heap.size, 0, none⟩)) true ty).run Tryd.prog (w.iter s pos) = .ok (.tuple #[.bool true, .int .i64 pos, .int .i32 ((s.data[pos]'hp').toNat : Int)]) (w.iter s (pos + 1)) := fun ty => run_next_ascii w s pos ty hp ha
        have hb : s.data[pos]'hp' = s.data.toList.getD pos 0 := ba_byte hp
        have hok : Vd.okB (s.data[pos]'hp') = true ↔ 32 ≤ (s.data[pos]'hp').toNat ∧ (s.data[pos]'hp').toNat ≤ 126 := by simp [Vd.okB]
        have hno : Vd.okB (s.data[pos]'hp') = false → s.data.toList.all Vd.okB = false := fun h => Vd.all_false (i := pos) (by omega) (by rw [← hb]; exact h)
        by_cases h1 : (((s.data[pos]'hp').toNat : Nat) : Int) < 32
        · have hf := hno (by cases h : Vd.okB (s.data[pos]'hp'); rfl; have := hok.1 h; omega)
          clear hok hno hb
          go_wp2
          go_ret
          exact ⟨by first | rfl | (rw [hf]; rfl), _, rfl⟩
        · by_cases h2 : (126 : Int) < (((s.data[pos]'hp').toNat : Nat) : Int)
          · have hf := hno (by cases h : Vd.okB (s.data[pos]'hp'); rfl; have := hok.1 h; omega)
            clear hok hno hb
            go_wp2
            go_ret
            exact ⟨by first | rfl | (rw [hf]; rfl), _, rfl⟩
          · have hy : (s.data.toList.take (pos + 1)).all Vd.okB = true := by
              rw [Vd.all_take (by omega), hall, ← hb, hok.2 (by omega)]
              rfl
            clear hok hno hb
            go_wp2
            go_roundw
            case rel => exact ⟨pos + 1, rfl, by omega, hy⟩
            case measure =>
              simp
              omega
      · have hd := decode_high s pos hp (by omega)
        have hnx : ∀ ty, (Instr.next (.pointer (some ⟨w.heap.size, 0, none⟩)) true ty).run Tryd.prog (w.iter s pos) = _ := fun ty => run_next_any w s pos ty hp
        have hb := ba_byte hp
        have hno : s.data.toList.all Vd.okB = false := Vd.all_false (i := pos) (by omega) (by
          rw [← hb]
          simp [Vd.okB]
          omega)
        generalize (Utf8.decode s pos).1 = r at *
        have h1 : ¬ ((r : Nat) : Int) < 32 := by omega
        have h2 : (126 : Int) < ((r : Nat) : Int) := by omega
        go_wp2
        go_ret
        exact ⟨by first | rfl | (rw [hno]; rfl), _, rfl⟩
    · have hnx : ∀ ty, (Instr.next (.pointer (some ⟨w.heap.size, 0, none⟩)) true ty).run Tryd.prog (w.iter s pos) = _ := fun ty => run_next_end w s pos ty hp
      go_wp2
      go_ret
      rw [List.take_of_length_le (by omega)] at hall
      exact ⟨by first | rfl | (rw [hall]; rfl), _, rfl⟩
end Go.Proofs
namespace Go.Vd
open Go.Proofs
theorem good_isText (L : List UInt8) : GoodP Tryd.prog gl0 157 [.str L] (.bool (std.tb fun _ => L.all okB)) := by
  intro w ρ rw N vs hfr hrw hg hargs
  match vs, hargs with
  | [v1], ⟨r1, _⟩ =>
    generalize hs1 : SV.str L = s1 at r1
    cases r1 with
    | str s =>
      cases hs1
      refine (isText_walk s w).mono fun e w' hq => ?_
      obtain ⟨rfl, pos, rfl⟩ := hq
      refine ⟨_, rfl, Ext.alloc _ _, fun key _ => ?_⟩
      exact Rel.bool _
    | _ => cases hs1
end Go.Vd
