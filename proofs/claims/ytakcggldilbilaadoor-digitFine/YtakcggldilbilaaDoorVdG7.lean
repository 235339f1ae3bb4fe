/- FormatUint at base 10, over the shelf's contracts. -/
import Derived.Test.YtakcggldilbilaaDoorTrydShelf
import Derived.Test.YtakcggldilbilaaDoorVdDT
import Derived.Lib.Walk
import Derived.Lib.ItoaMem
import Derived.WalkKit
import Derived.BigCall
import Derived.BigGuard
import Derived.Test.YtakcggldilbilaaDoorVdG3
set_option linter.unusedVariables false
namespace Go.Proofs
open Go.Shelf Go.RowKit Go.Sort Go.Lib
theorem hz0 (w : World) (T : TypeId) (nd : Nat) (hs : nd ≤ 24) : Holds (fun (b : UInt8) => Value.int .u8 (b.toNat : Int)) (w.alloc (.cells Lib.zeros24 T)) w.heap.size 0 (Array.replicate nd (0 : UInt8)) := fun j hj => by
  have hj' : j < nd := by simpa using hj
  refine ⟨?_, World.frozen?_alloc_new _ _ _ _⟩
  rw [World.cell?_alloc_new, Lib.zeros24_at _ (by omega), getElem!_pos _ j hj]
  simp
theorem fin0 (w : World) (o : Obj) (dk : Array UInt8) (k : Nat) : ∃ os, (putRow (fun (b : UInt8) => Value.int .u8 (b.toNat : Int)) (w.alloc o) w.heap.size 0 dk).drewN k = grow (w.drewN k) os := by
  rw [alloc_eq_grow]
  obtain ⟨os', _, e⟩ := putRow_grow_new (fun (b : UInt8) => Value.int .u8 (b.toNat : Int)) w #[o] w.heap.size 0 dk (Nat.le_refl _)
  exact ⟨os', by rw [e]; rfl⟩

set_option maxRecDepth 100000 in
set_option maxHeartbeats 2000000 in
theorem fmtU_small (u : Nat) (h : u < 100) (w : World) :
    Calls Tryd.prog 165 #[.int .u64 (u : Int), .int .i64 10] w fun e w' => e = .returned (.string ⟨(Lib.decDigits u).toArray⟩) ∧ w' = w := by
  have hc : IntKind.i64.wrap (u : Int) = (u : Int) := by rw [IntKind.wrap_i64]; omega
  go_enter Tryd.func165, Tryd.ntmps165
  go_wp2_with (go_at_call 188; refine (Tryd.internal_strconv_small u h _).mono ?_; rintro e w' ⟨rfl, rfl⟩)
  go_ret
  exact ⟨rfl, rfl⟩

set_option maxRecDepth 100000 in
set_option maxHeartbeats 6400000 in
theorem fmtU_big (u : Nat) (h100 : 100 ≤ u) (hu64 : u < 18446744073709551616) (w : World) (htab : Lib.TabIs Tryd.prog w "internal/strconv.uint64pow10" .u64 Lib.pow10Tab) :
    Calls Tryd.prog 165 #[.int .u64 (u : Int), .int .i64 10] w fun e w' => e = .returned (.string ⟨(Lib.decDigits u).toArray⟩) ∧ ∃ k os, w' = grow (w.drewN k) os := by
  have hu1 : 1 ≤ u := by omega
  have hnd20 : Lib.nDigits u ≤ 20 := by have := Lib.numDigits_eq u hu1 hu64; split at this <;> omega
  have hal : Tryd.prog.arrayLen 234 = 24 := by simp [Program.arrayLen, Tryd.underlying234]
  have hsl1 : ∀ W, (Instr.sliceAt 234 (.pointer (some ⟨w.heap.size, 0, none⟩)) none (some (.int .i64 (Lib.nDigits u : Int))) none).run Tryd.prog W = .ok (.slice (some ⟨w.heap.size, 0, none⟩) (Lib.nDigits u) 24) W := fun W => by
    rw [run_sliceAt_array_h W 234 ⟨w.heap.size, 0, none⟩ (by simp [Program.arrayLen, Program.elem, Tryd.underlying234]) .i64 (Lib.nDigits u : Int) (by omega) (by rw [hal]; omega)]
    go_simp
  have hH0 := hz0 w 234 (Lib.nDigits u) (by omega)
  have hfmt := Tryd.internal_strconv_formatBase10 w.heap.size 0 24 u (Array.replicate (Lib.nDigits u) 0) (w.alloc (.cells Lib.zeros24 234)) hH0 (by rw [Array.size_replicate]; exact Lib.lt_pow_nDigits u) hu64 (by rw [Array.size_replicate]; omega)
  rw [Array.size_replicate] at hfmt
  have HH0 := Lib.hid hH0
  clear hH0 hal
  go_enter Tryd.func165, Tryd.ntmps165
  go_wp2_with (first
    | (go_at_call 189; refine (Tryd.internal_strconv_numDigits u hu1 hu64 _ (Lib.tabIs_alloc htab _)).mono ?_; rintro e w' ⟨rfl, rfl⟩))
  go_at_call 190
  refine hfmt.mono ?_
  rintro e w' ⟨rfl, k, v', dk, rfl, hF⟩
  have hcv : (convert 28 9 (.slice (some ⟨w.heap.size, 0, none⟩) (Lib.nDigits u) 24)).run Tryd.prog ((putRow (fun (b : UInt8) => Value.int .u8 (b.toNat : Int)) (w.alloc (.cells Lib.zeros24 234)) w.heap.size 0 dk).drewN k) = .ok (.string ⟨(Lib.decDigits u).toArray⟩) ((putRow (fun (b : UInt8) => Value.int .u8 (b.toNat : Int)) (w.alloc (.cells Lib.zeros24 234)) w.heap.size 0 dk).drewN k) := by
    have h := run_convert_bytes_back (P := Tryd.prog) ((putRow (fun (b : UInt8) => Value.int .u8 (b.toNat : Int)) (w.alloc (.cells Lib.zeros24 234)) w.heap.size 0 dk).drewN k) 28 9 5 ⟨w.heap.size, 0, none⟩ 24 (Lib.decDigits u) Tryd.underlying28 Tryd.underlying5 Tryd.underlying9 (fun j hj => by
      rw [Lib.row_is_numeral hF j hj, Lib.add_plain, World.cell?_drewN]
      exact cell?_putRow (fun (b : UInt8) => Value.int .u8 (b.toNat : Int)) _ w.heap.size 0 _ dk HH0.out (by rw [hF.size, Array.size_replicate]) j (by rw [hF.size]; rw [Lib.decDigits_length] at hj; exact hj))
    rw [Lib.decDigits_length] at h
    exact h
  go_wp2
  go_ret
  obtain ⟨os, eo⟩ := fin0 w (.cells Lib.zeros24 234) dk k
  exact ⟨rfl, k, os, eo⟩
end Go.Proofs

/- The library's functions that digits lean on, as contracts: FormatUint, Itoa, Repeat; check digits. -/
set_option linter.unusedVariables false
set_option linter.unusedSimpArgs false
set_option maxRecDepth 100000
set_option maxHeartbeats 2000000
namespace Go.Vd
open Go.Proofs
theorem grow_ext (w : World) (k : Nat) (os : Array Obj) : Ext w (Go.Sort.grow (w.drewN k) os) := by
  refine ⟨rfl, rfl, rfl, ?_, fun b hb _ => ?_⟩
  · simp [Go.Sort.grow]
  · simp [Go.Sort.grow, Array.getElem?_append, hb]
theorem gTab : Tryd.prog.globalNamed "internal/strconv.uint64pow10" = some 2 := by kernel_rfl
/-- The table, from what is known of the package's variables. -/
theorem tab_of {w : World} {rw : Nat → Prop} (h : GlOk gl0 w rw) : Lib.TabIs Tryd.prog w "internal/strconv.uint64pow10" .u64 Lib.pow10Tab := by
  obtain ⟨⟨cs, t, b, hc, hs⟩, _⟩ := h.2 2 20 _ rfl
  have h1 := h.1 2 (fun _ => undef) fun _ => False
  unfold Lib.TabIs World.var?
  rw [gTab]
  simp only [Option.bind_some, hc, Option.some.injEq]
  apply Array.ext
  · rw [hs]; simp [Lib.pow10Tab_length]
  · intro j hj _
    rw [hs] at hj
    have h2 : w.cell? ⟨2, j, none⟩ = some (.int .u64 (Lib.pow10Tab.getD j 0)) := by
      generalize hg : gl0 2 = s at h1
      generalize hv : Value.pointer (some ⟨2, 0, none⟩) = pv at h1
      cases h1 with
      | rop a k f g hsp hcc hr =>
        have e2 : (SV.rop 20 fun j => .int .u64 (Lib.pow10Tab.getD j 0)) = .rop k f := hg
        cases e2
        cases hv
        have e3 := (hcc j hj).1
        have e4 := hr j hj
        have e5 : g j = .int .u64 (Lib.pow10Tab.getD j 0) := by
          generalize g j = v at e4
          cases e4 with
          | int => rfl
        rw [Lib.add_plain, Nat.zero_add, e5] at e3
        exact e3
      | _ => exact absurd (show (SV.rop 20 fun j => .int .u64 (Lib.pow10Tab.getD j 0)) = _ from hg) (by intro e; cases e)
    have h3 : cs[j]? = some (.int .u64 (Lib.pow10Tab.getD j 0)) := by
      unfold World.cell? at h2
      rw [hc] at h2
      exact h2
    have hjs : j < cs.size := by omega
    rw [Array.getElem?_eq_getElem hjs] at h3
    rw [Option.some.inj h3, List.getD_eq_getElem?_getD, List.getElem?_eq_getElem (by rw [Lib.pow10Tab_length]; exact hj)]
    simp
theorem dec_small {k : Nat} (h : k < 10) : Lib.decDigits k = [dC k] := by rw [Lib.decDigits, dif_pos h]; rfl
theorem ba_eta (s : ByteArray) : (⟨s.data.toList.toArray⟩ : ByteArray) = s := by cases s; simp
theorem good_Itoa (k : Nat) (hk : k < 10) : GoodP Tryd.prog gl0 72 [.int .i64 (k : Int)] (.str (std.ts fun _ => [dC k])) := by
  intro w ρ rw N vs hfr hrw hg hargs
  match vs, hargs with
  | [v1], ⟨r1, _⟩ =>
    generalize hs1 : SV.int .i64 (k : Int) = s1 at r1
    cases r1 with
    | int kk n =>
      cases hs1
      refine (Tryd.strconv_Itoa_small k (by omega) w).mono fun e w' hq => ?_
      obtain ⟨rfl, rfl⟩ := hq
      refine ⟨_, rfl, Keep.refl _ _, fun key _ => ?_⟩
      have h : Rel w' ρ rw N (.string ⟨(Lib.decDigits k).toArray⟩) (.str (Lib.decDigits k).toArray.toList) := Rel.str _
      rw [List.toList_toArray, dec_small hk] at h
      rw [dec_small hk]
      exact h
    | _ => cases hs1
theorem good_FmtU (u : Nat) (hu : u < 18446744073709551616) : GoodP Tryd.prog gl0 124 [.int .u64 (u : Int), .int .i64 10] (.str (std.ts fun _ => Lib.decDigits u)) := by
  intro w ρ rw N vs hfr hrw hg hargs
  match vs, hargs with
  | [v1, v2], ⟨r1, r2, _⟩ =>
    generalize hs1 : SV.int .u64 (u : Int) = s1 at r1
    generalize hs2 : SV.int .i64 10 = s2 at r2
    cases r1 with
    | int kk n =>
      cases r2 with
      | int kk2 n2 =>
        cases hs1
        cases hs2
        have hpost : Calls Tryd.prog 165 #[.int .u64 (u : Int), .int .i64 10] w fun e w' => e = .returned (.string ⟨(Lib.decDigits u).toArray⟩) ∧ Ext w w' := by
          by_cases h : u < 100
          · refine (fmtU_small u h w).mono fun e w' hq => ?_
            obtain ⟨rfl, rfl⟩ := hq
            exact ⟨rfl, Keep.refl _ _⟩
          · refine (fmtU_big u (by omega) hu w (tab_of hg)).mono fun e w' hq => ?_
            obtain ⟨rfl, k, os, rfl⟩ := hq
            exact ⟨rfl, grow_ext w k os⟩
        have hall : Calls Tryd.prog 124 #[.int .u64 (u : Int), .int .i64 10] w fun e w' => e = .returned (.string ⟨(Lib.decDigits u).toArray⟩) ∧ Ext w w' := by
          go_enter Tryd.func124, Tryd.ntmps124
          go_wp2_with (go_at_call 165; refine hpost.mono ?_; rintro e w' ⟨rfl, hx⟩)
          go_ret
          exact ⟨rfl, hx⟩
        refine hall.mono fun e w' hq => ?_
        obtain ⟨rfl, hx⟩ := hq
        refine ⟨_, rfl, hx, fun key _ => ?_⟩
        have h : Rel w' ρ rw N (.string ⟨(Lib.decDigits u).toArray⟩) (.str (Lib.decDigits u).toArray.toList) := Rel.str _
        rw [List.toList_toArray] at h
        exact h
      | _ => cases hs2
    | _ => cases hs1
theorem good_Repeat (L : List UInt8) (c : Nat) (hc : c ≤ 1000 ∧ L.length ≤ 1000) : GoodP Tryd.prog gl0 125 [.str L, .int .i64 (c : Int)] (.str (std.ts fun _ => Lib.repeatL L c)) := by
  intro w ρ rw N vs hfr hrw hg hargs
  match vs, hargs with
  | [v1, v2], ⟨r1, r2, _⟩ =>
    generalize hs1 : SV.str L = s1 at r1
    generalize hs2 : SV.int .i64 (c : Int) = s2 at r2
    cases r1 with
    | str s =>
      cases r2 with
      | int kk2 n2 =>
        cases hs1
        cases hs2
        have hl : s.size ≤ 1000 := by have h9 := hc.2; rw [Array.length_toList] at h9; exact h9
        have hm : s.size * c ≤ 1000 * 1000 := Nat.mul_le_mul hl hc.1
        refine (Tryd.strings_Repeat s c w (by omega) (by omega)).mono fun e w' hq => ?_
        obtain ⟨rfl, hb⟩ := hq
        refine ⟨_, rfl, Ext.of_below hb, fun key _ => ?_⟩
        have h : Rel w' ρ rw N (.string ⟨(Lib.repeatL s.data.toList c).toArray⟩) (.str (Lib.repeatL s.data.toList c).toArray.toList) := Rel.str _
        rw [List.toList_toArray] at h
        exact h
      | _ => cases hs2
    | _ => cases hs1
theorem good_Itoa' (k : Int) (hk : 0 ≤ k ∧ k < 10) : GoodP Tryd.prog gl0 72 [.int .i64 k] (.str (std.ts fun _ => [dC k.toNat])) := by
  obtain ⟨m, rfl⟩ : ∃ m : Nat, k = m := ⟨k.toNat, by omega⟩
  exact good_Itoa m (by omega)
theorem good_FmtU' (u : Int) (hu : 0 ≤ u ∧ u < 18446744073709551616) : GoodP Tryd.prog gl0 124 [.int .u64 u, .int .i64 10] (.str (std.ts fun _ => Lib.decDigits u.toNat)) := by
  obtain ⟨m, rfl⟩ : ∃ m : Nat, u = m := ⟨u.toNat, by omega⟩
  exact good_FmtU m (by omega)
theorem good_Repeat' (L : List UInt8) (c : Int) (hc : 0 ≤ c ∧ c ≤ 1000 ∧ L.length ≤ 1000) : GoodP Tryd.prog gl0 125 [.str L, .int .i64 c] (.str (std.ts fun _ => Lib.repeatL L c.toNat)) := by
  obtain ⟨m, rfl⟩ : ∃ m : Nat, c = m := ⟨c.toNat, by omega⟩
  exact good_Repeat L m ⟨by omega, hc.2.2⟩
noncomputable def c_Itoa : Ct := fun A args => match args with
  | [.int .i64 k] => some (some (A.tp fun _ => 0 ≤ k ∧ k < 10), .str (A.ts fun _ => [dC k.toNat]))
  | _ => none
noncomputable def c_FmtU : Ct := fun A args => match args with
  | [.int .u64 u, .int .i64 10] => some (some (A.tp fun _ => 0 ≤ u ∧ u < 18446744073709551616), .str (A.ts fun _ => Lib.decDigits u.toNat))
  | _ => none
noncomputable def c_Repeat : Ct := fun A args => match args with
  | [.str L, .int .i64 c] => some (some (A.tp fun _ => 0 ≤ c ∧ c ≤ 1000 ∧ L.length ≤ 1000), .str (A.ts fun _ => Lib.repeatL L c.toNat))
  | _ => none
noncomputable def c_gFine : Ct := fun A args => match args with
  | [.str L] => some (some (A.tp fun _ => L.length ≤ 100000), .bool (A.tb fun _ => lFine L))
  | _ => none
noncomputable def c_rFine : Ct := fun A args => match args with
  | [.str L] => some (some (A.tp fun _ => L.length ≤ 100000), .bool (A.tb fun _ => lFine L))
  | _ => none
noncomputable def gg3 : Ar → Pu := addC 72 c_Itoa (addC 124 c_FmtU (addC 125 c_Repeat (addC 18 c_gFine (addC 91 c_rFine (gg2)))))
theorem gg3_ok : PuOk Tryd.prog gl0 (gg3 std) := by
  refine addC_ok (addC_ok (addC_ok (addC_ok (addC_ok (gg2_ok) ⟨_, Tryd.func91, rfl, by decide⟩ ?_) ⟨_, Tryd.func18, rfl, by decide⟩ ?_) ⟨_, Tryd.func125, rfl, by decide⟩ ?_) ⟨_, Tryd.func124, rfl, by decide⟩ ?_) ⟨_, Tryd.func72, rfl, by decide⟩ ?_
  · intro args p r h hp
    unfold c_rFine at h
    split at h <;> cases h
    exact good_rFine _ hp
  · intro args p r h hp
    unfold c_gFine at h
    split at h <;> cases h
    exact good_gFine _ hp
  · intro args p r h hp
    unfold c_Repeat at h
    split at h <;> cases h
    exact good_Repeat' _ _ hp
  · intro args p r h hp
    unfold c_FmtU at h
    split at h <;> cases h
    exact good_FmtU' _ hp
  · intro args p r h hp
    unfold c_Itoa at h
    split at h <;> cases h
    exact good_Itoa' _ hp
def chS (L : List UInt8) : List UInt8 := if isD L = true then [dC (lCheck L)] else []
def chE (L : List UInt8) : Int := if isD L = true then 0 else 3
theorem ch1 {L : List UInt8} (h : isD L = true) : chS L = [dC (lCheck L)] ∧ chE L = 0 := ⟨if_pos h, if_pos h⟩
theorem ch0 {L : List UInt8} (h : isD L = false) : chS L = [] ∧ chE L = 3 := by
  unfold chS chE; rw [h]; exact ⟨rfl, rfl⟩
theorem ck_eq (n : Nat) : ((IntKind.i64.wrap (10 - (n : Int).tmod 10)).tmod 10) = (((10 - n % 10) % 10 : Nat) : Int) := by
  rw [Int.tmod_eq_emod_of_nonneg (by omega : (0:Int) ≤ n), w64 (by omega), Int.tmod_eq_emod_of_nonneg (by omega)]
  omega
theorem good_gCheck (L : List UInt8) (hL : L.length ≤ 50000) : GoodP Tryd.prog gl0 16 [.str L] (.tup [.str (std.ts fun _ => chS L), .int .i64 (std.ti fun _ => chE L)]) := by
  refine fn_sound' (T := seatT) (G := gg3) (X := noX) seatT_ok gg3_ok noX_ok noI_ok mixed Tryd.func16 (.one) (fun A => [.str L]) (fun A => .tup [.str (A.ts fun _ => chS L), .int .i64 (A.ti fun _ => chE L)]) fun A hA => ?_
  cbv
  repeat' (first | with_reducible exact True.intro | with_reducible exact dr_ok hA (by kernel_rfl) | with_reducible refine And.intro ?_ ?_ | (intro hc; cbv))
  all_goals (subst hA; simp [std_add, std_sub, std_mul, std_quo, std_rem, std_band, std_bor, std_bxor, std_shl, std_shr, std_eq, std_ne, std_lt, std_le, std_conv, std_not, std_beq, std_bne, std_ite, std_want, std_and2, std_sadd, std_seq, std_sne, std_slt, std_sle, std_sgt, std_sge, std_slen, std_sget, std_scut, std_ofNat, std_toNat, std_nsub, std_nadd, std_lenOf, std_nz, std_nneg, std_inb, std_upto, std_slt63, std_grow, std_imp, std_impN, std_tr, std_tb, std_ti, std_ts, std_tn, std_tp, std_nmin, std_makes, std_room, std_zeros, std_nilq, std_notq, std_eqi, std_eqn, std_eqb, std_eqs, std_eqv, std_cat, std_lst, std_rset, std_rcopy, std_shift, std_eqr, std_strOf, std_bytesOf, std_isB, std_zOf, zOf_int, std_isI, isI_int, std_getL, std_nmul, std_sOf, sOf_str, std_isS, isS_str] at *)
  all_goals first
    | omega
    | exact (ch0 hc).1
    | exact (ch0 hc).2.symm
    | exact (ch1 hc).2.symm
    | exact ⟨by omega, hc⟩
    | (rw [ck_eq, Int.toNat_natCast]; exact (ch1 hc).1.symm)
    | (rw [ck_eq]; constructor <;> omega)
    | trace_state
theorem repl_eq : ∀ n, Lib.repeatL [48] n = List.replicate n (48 : UInt8)
  | 0 => rfl
  | n + 1 => by rw [Lib.repeatL, repl_eq n]; rfl
theorem decs_zero : ∀ n, decs n 0 = List.replicate n (48 : UInt8)
  | 0 => rfl
  | n + 1 => by
    rw [decs, Nat.zero_div, decs_zero n, List.replicate_succ']
    rfl
theorem nd_le : ∀ (n u : Nat), 1 ≤ n → u < 10 ^ n → Lib.nDigits u ≤ n
  | 0, _, h, _ => absurd h (by omega)
  | n + 1, u, _, h => by
    by_cases h1 : u < 10
    · rw [Lib.nDigits_small h1]; omega
    · rw [Lib.nDigits_big h1]
      rw [Nat.pow_succ] at h
      have h2 : u / 10 < 10 ^ n := by omega
      have h3 : 1 ≤ n := by
        rcases Nat.eq_zero_or_pos n with h4 | h4
        · subst h4; simp at h2; omega
        · exact h4
      have := nd_le n (u / 10) h3 h2
      omega
theorem nd_iff {n u : Nat} (hn : 1 ≤ n) : Lib.nDigits u ≤ n ↔ u < 10 ^ n :=
  ⟨fun h => Nat.lt_of_lt_of_le (Lib.lt_pow_nDigits u) (Nat.pow_le_pow_right (by omega) h), nd_le n u hn⟩
theorem rep_decs : ∀ (n u : Nat), 1 ≤ n → u < 10 ^ n → Lib.repeatL [48] (n - Lib.nDigits u) ++ Lib.decDigits u = decs n u
  | 0, _, h, _ => absurd h (by omega)
  | n + 1, u, _, h => by
    by_cases h1 : u < 10
    · rw [Lib.nDigits_small h1, Lib.decDigits, dif_pos h1, decs, Nat.div_eq_of_lt h1, decs_zero, repl_eq, Nat.mod_eq_of_lt h1]
      rfl
    · rw [Nat.pow_succ] at h
      have h2 : u / 10 < 10 ^ n := by omega
      have h3 : 1 ≤ n := by
        rcases Nat.eq_zero_or_pos n with h4 | h4
        · subst h4; simp at h2; omega
        · exact h4
      rw [Lib.nDigits_big h1, Lib.decDigits, dif_neg h1, decs, Nat.add_sub_add_right, ← List.append_assoc, rep_decs n (u / 10) h3 h2]
def puS (v n : Int) : List UInt8 := if n < 1 ∨ 19 < n then [] else if 10 ^ n.toNat ≤ v.toNat then [] else decs n.toNat v.toNat
def puE (v n : Int) : Int := if n < 1 ∨ 19 < n then 1 else if 10 ^ n.toNat ≤ v.toNat then 10 else 0
theorem pu1 {v n : Int} (h : n < 1 ∨ 19 < n) : puS v n = [] ∧ puE v n = 1 := ⟨if_pos h, if_pos h⟩
theorem pu2 {v n : Int} (h : ¬(n < 1 ∨ 19 < n)) (h2 : 10 ^ n.toNat ≤ v.toNat) : puS v n = [] ∧ puE v n = 10 := by
  unfold puS puE; rw [if_neg h, if_neg h, if_pos h2, if_pos h2]; exact ⟨rfl, rfl⟩
theorem pu3 {v n : Int} (h : ¬(n < 1 ∨ 19 < n)) (h2 : ¬10 ^ n.toNat ≤ v.toNat) : puS v n = decs n.toNat v.toNat ∧ puE v n = 0 := by
  unfold puS puE; rw [if_neg h, if_neg h, if_neg h2, if_neg h2]; exact ⟨rfl, rfl⟩
theorem pl_iff {v n : Int} (h : ¬(n < 1 ∨ 19 < n)) : ((Lib.decDigits v.toNat).length : Int) ≤ n ↔ ¬10 ^ n.toNat ≤ v.toNat := by
  rw [Lib.decDigits_length]
  have := nd_iff (n := n.toNat) (u := v.toNat) (by omega)
  rw [Nat.not_le, ← this]
  omega
theorem rl_len (n : Nat) : (Lib.repeatL [48] n).length = n := by rw [repl_eq, List.length_replicate]
theorem pu_fin {v n : Int} (h : ¬(n < 1 ∨ 19 < n)) (hc : ((Lib.decDigits v.toNat).length : Int) ≤ n) : Lib.repeatL [48] (IntKind.i64.wrap (n - ((Lib.decDigits v.toNat).length : Int))).toNat ++ Lib.decDigits v.toNat = puS v n := by
  rw [(pu3 h ((pl_iff h).1 hc)).1, ← rep_decs n.toNat v.toNat (by omega) (Nat.not_le.1 ((pl_iff h).1 hc)), w64 (by omega), ← Lib.decDigits_length]
  congr 2
  omega
theorem good_gPut (v n : Int) (hv : 0 ≤ v ∧ v < 18446744073709551616) (hn : -9223372036854775808 ≤ n ∧ n < 9223372036854775808) : GoodP Tryd.prog gl0 69 [.int .u64 v, .int .i64 n] (.tup [.str (std.ts fun _ => puS v n), .int .i64 (std.ti fun _ => puE v n)]) := by
  refine fn_sound' (T := seatT) (G := gg3) (X := noX) seatT_ok gg3_ok noX_ok noI_ok mixed Tryd.func69 (.one) (fun A => [.int .u64 v, .int .i64 n]) (fun A => .tup [.str (A.ts fun _ => puS v n), .int .i64 (A.ti fun _ => puE v n)]) fun A hA => ?_
  cbv
  repeat' (first | with_reducible exact True.intro | with_reducible exact dr_ok hA (by kernel_rfl) | with_reducible refine And.intro ?_ ?_ | (intro hc; cbv))
  all_goals (subst hA; simp [std_add, std_sub, std_mul, std_quo, std_rem, std_band, std_bor, std_bxor, std_shl, std_shr, std_eq, std_ne, std_lt, std_le, std_conv, std_not, std_beq, std_bne, std_ite, std_want, std_and2, std_sadd, std_seq, std_sne, std_slt, std_sle, std_sgt, std_sge, std_slen, std_sget, std_scut, std_ofNat, std_toNat, std_nsub, std_nadd, std_lenOf, std_nz, std_nneg, std_inb, std_upto, std_slt63, std_grow, std_imp, std_impN, std_tr, std_tb, std_ti, std_ts, std_tn, std_tp, std_nmin, std_makes, std_room, std_zeros, std_nilq, std_notq, std_eqi, std_eqn, std_eqb, std_eqs, std_eqv, std_cat, std_lst, std_rset, std_rcopy, std_shift, std_eqr, std_strOf, std_bytesOf, std_isB, std_zOf, zOf_int, std_isI, isI_int, std_getL, std_nmul, std_sOf, sOf_str, std_isS, isS_str] at *)
  all_goals first
    | exact (pu1 hc).1
    | exact (pu1 hc).2.symm
    | exact hv
    | (have h : ¬(n < 1 ∨ 19 < n) := by omega
       have hl := pl_iff (v := v) h
       first
         | exact (pu2 h (by omega)).1
         | exact (pu2 h (by omega)).2.symm
         | exact pu_fin h hc
         | exact (pu3 h (hl.1 hc)).2.symm
         | (rw [w64 (by omega)]; constructor <;> omega)
         | (rw [rl_len, w64 (by omega)]; omega))
    | trace_state
theorem rep1 {d : Nat} (h : d < 256) : Reps eB 0 1 1 (lstS [[SV.int .u8 (d : Int)]]) [UInt8.ofNat d] := by
  refine ⟨rfl, fun i j hi hj => .of_eq ?_⟩
  obtain rfl : i = 0 := by omega
  obtain rfl : j = 0 := by omega
  show SV.int .u8 (d : Int) = SV.int .u8 (((UInt8.ofNat d).toNat : Nat) : Int)
  rw [UInt8.toNat_ofNat_of_lt' (by simpa using h)]
theorem so1 {d : Nat} (h : d < 256) : strOfS 1 (lstS [[SV.int .u8 (d : Int)]]) = [UInt8.ofNat d] := strOf_row (rep1 h)
theorem ib1 {d : Nat} (h : d < 256) : isBS 1 (lstS [[SV.int .u8 (d : Int)]]) := isB_row (rep1 h)
theorem chk_hit {L : List UInt8} {d : Nat} (hk : isD L = true) (hd : 48 ≤ d ∧ d ≤ 57) (h : lFine (L ++ [UInt8.ofNat d]) = true) : [UInt8.ofNat d] = chS L := by
  have e : UInt8.ofNat d = dC (d - 48) := by unfold dC; rw [show 48 + (d - 48) = d by omega]
  rw [e, lFine_snoc hk (by omega), decide_eq_true_eq] at h
  rw [e, h, (ch1 hk).1]
theorem chk_end {L : List UInt8} (hk : isD L = true) (hf : ∀ j, 48 ≤ j → j < 57 → lFine (L ++ [UInt8.ofNat j]) = false) : [57] = chS L := by
  have hc : lCheck L < 10 := Nat.mod_lt _ (by omega)
  rw [(ch1 hk).1]
  by_cases h9 : lCheck L = 9
  · rw [h9]; rfl
  · have := hf (48 + lCheck L) (by omega) (by omega)
    have h2 := lFine_snoc hk hc
    unfold dC at h2
    rw [this] at h2
    simp at h2
end Go.Vd

/- The reference's Put; awake; DigitRight's answer. -/
set_option linter.unusedVariables false
set_option linter.unusedSimpArgs false
set_option maxRecDepth 100000
set_option maxHeartbeats 2000000
namespace Go.Vd
open Go.Proofs
theorem decs_push : ∀ (n v : Nat), UInt8.ofNat (48 + v / 10 ^ n % 10) :: decs n v = decs (n + 1) v
  | 0, v => by simp [decs]
  | n + 1, v => by
    have e := decs_push n (v / 10)
    show UInt8.ofNat (48 + v / 10 ^ (n + 1) % 10) :: (decs n (v / 10) ++ [UInt8.ofNat (48 + v % 10)]) = decs (n + 1) (v / 10) ++ [UInt8.ofNat (48 + v % 10)]
    rw [← e, Nat.div_div_eq_div_mul, Nat.pow_succ, Nat.mul_comm 10]
    rfl
theorem cvb (q : Nat) : IntKind.u8.wrap (IntKind.u64.wrap (48 + (q : Int).tmod 10)) = ((48 + q % 10 : Nat) : Int) := by
  rw [Int.tmod_eq_emod_of_nonneg (by omega), wU64' (by omega), wU8' (by omega)]
  omega
theorem so1q (q : Nat) : strOfS 1 (lstS [[SV.int .u8 ((48 + q % 10 : Nat) : Int)]]) = [UInt8.ofNat (48 + q % 10)] := so1 (by omega)
theorem ib1q (q : Nat) : isBS 1 (lstS [[SV.int .u8 ((48 + q % 10 : Nat) : Int)]]) := ib1 (by omega)
theorem q_lt {V i : Nat} (h : V < 18446744073709551616) : V / 10 ^ i < 18446744073709551616 := Nat.lt_of_le_of_lt (Nat.div_le_self _ _) h
theorem q_step (V i : Nat) : V / 10 ^ i / 10 = V / 10 ^ (i + 1) := by rw [Nat.div_div_eq_div_mul, Nat.pow_succ]
theorem q_end (V n : Nat) : V / 10 ^ n = 0 ↔ ¬10 ^ n ≤ V := by
  rw [Nat.div_eq_zero_iff, Nat.not_le]
  have : 0 < 10 ^ n := Nat.pow_pos (by omega)
  omega
theorem so1z (q : Nat) : strOfS 1 (lstS [[SV.int .u8 (48 + (q : Int) % 10)]]) = [UInt8.ofNat (48 + q % 10)] := by
  have h := so1q q
  rw [show ((48 + q % 10 : Nat) : Int) = 48 + (q : Int) % 10 by omega] at h
  exact h
theorem ib1z (q : Nat) : isBS 1 (lstS [[SV.int .u8 (48 + (q : Int) % 10)]]) := by
  have h := ib1q q
  rw [show ((48 + q % 10 : Nat) : Int) = 48 + (q : Int) % 10 by omega] at h
  exact h
theorem pu_end {V i q : Nat} {n : Int} {S : List UInt8} (hk : ¬(n < 1 ∨ 19 < n)) (hq : q = V / 10 ^ i) (hS : S = decs i V) (hin : (i : Int) = n) : (¬q = 0 → puS (V : Int) n = [] ∧ puE (V : Int) n = 10) ∧ (q = 0 → puS (V : Int) n = S ∧ puE (V : Int) n = 0) := by
  have hi : i = n.toNat := by omega
  have hz := q_end V n.toNat
  rw [hi] at hq hS
  have hV : ((V : Int)).toNat = V := Int.toNat_natCast V
  constructor
  · intro h
    refine pu2 hk ?_
    rw [hV]
    rw [hq] at h
    omega
  · intro h
    rw [hq] at h
    have h3 := pu3 (v := (V : Int)) hk (by rw [hV]; exact hz.1 h)
    rw [hV] at h3
    rw [hS]
    exact h3
theorem e1_q {q q' : Nat} (h : q < 18446744073709551616) (e : q' = q / 10) : IntKind.u64.wrap ((q : Int) / 10) = (q' : Int) := by
  rw [wU64' (n := (q : Int) / 10) (by omega)]; omega
theorem e2_q {i i' : Nat} {n : Int} (h : (i : Int) < n) (hn : n ≤ 19) (e : i' = i + 1) : IntKind.i64.wrap ((i : Int) + 1) = (i' : Int) := by
  rw [w64 (n := (i : Int) + 1) (by omega)]; omega
theorem good_rPut (V : Nat) (n : Int) (hv : V < 18446744073709551616) (hn : -9223372036854775808 ≤ n ∧ n < 9223372036854775808) : GoodP Tryd.prog gl0 151 [.int .u64 (V : Nat), .int .i64 n] (.tup [.str (std.ts fun _ => puS (V : Int) n), .int .i64 (std.ti fun _ => puE (V : Int) n)]) := by
  refine fn_sound' (T := seatT) (G := gg3) (X := noX) seatT_ok gg3_ok noX_ok noI_ok mixed Tryd.func151 (.one) (fun A => [.int .u64 (V : Nat), .int .i64 n]) (fun A => .tup [.str (A.ts fun _ => puS (V : Int) n), .int .i64 (A.ti fun _ => puE (V : Int) n)]) fun A hA => ?_
  cbv
  repeat' (first | with_reducible exact True.intro | with_reducible exact dr_ok hA (by kernel_rfl) | with_reducible refine And.intro ?_ ?_ | (intro hc; cbv))
  rotate_right
  · have hk : ¬(n < 1 ∨ 19 < n) := by
      subst hA
      simp [std_add, std_sub, std_mul, std_quo, std_rem, std_band, std_bor, std_bxor, std_shl, std_shr, std_eq, std_ne, std_lt, std_le, std_conv, std_not, std_beq, std_bne, std_ite, std_want, std_and2, std_sadd, std_seq, std_sne, std_slt, std_sle, std_sgt, std_sge, std_slen, std_sget, std_scut, std_ofNat, std_toNat, std_nsub, std_nadd, std_lenOf, std_nz, std_nneg, std_inb, std_upto, std_slt63, std_grow, std_imp, std_impN, std_tr, std_tb, std_ti, std_ts, std_tn, std_tp, std_nmin, std_makes, std_room, std_zeros, std_nilq, std_notq, std_eqi, std_eqn, std_eqb, std_eqs, std_eqv, std_cat, std_lst, std_rset, std_rcopy, std_shift, std_eqr, std_strOf, std_bytesOf, std_isB, std_zOf, zOf_int, std_isI, isI_int, std_getL, std_nmul, std_sOf, sOf_str, std_isS, isS_str] at hc
      omega
    clear hc
    refine ⟨⟨{p : Nat × Nat × List UInt8 // (p.1 : Int) ≤ n ∧ p.2.1 = V / 10 ^ p.1 ∧ p.2.2 = decs p.1 V}, fun b p => [(0, .int .u64 (p.1.2.1 : Nat)), (6, .str p.1.2.2), (7, .int .i64 (p.1.1 : Nat))], fun b p => [], fun p => n.toNat - p.1.1, true⟩, ⟨⟨(0, V, []), by omega, by simp, rfl⟩, ?_⟩, ?_⟩
    · cbv
      subst hA
      simp [-List.getD_eq_getElem?_getD, std_add, std_sub, std_mul, std_quo, std_rem, std_band, std_bor, std_bxor, std_shl, std_shr, std_eq, std_ne, std_lt, std_le, std_conv, std_not, std_beq, std_bne, std_ite, std_want, std_and2, std_sadd, std_seq, std_sne, std_slt, std_sle, std_sgt, std_sge, std_slen, std_sget, std_scut, std_ofNat, std_toNat, std_nsub, std_nadd, std_lenOf, std_nz, std_nneg, std_inb, std_upto, std_slt63, std_grow, std_imp, std_impN, std_tr, std_tb, std_ti, std_ts, std_tn, std_tp, std_nmin, std_makes, std_room, std_zeros, std_nilq, std_notq, std_eqi, std_eqn, std_eqb, std_eqs, std_eqv, std_cat, std_lst, std_rset, std_rcopy, std_shift, std_eqr, std_strOf, std_bytesOf, std_isB, std_zOf, zOf_int, std_isI, isI_int, std_getL, std_nmul, std_sOf, sOf_str, std_isS, isS_str]
    · rintro ⟨⟨i, q, S⟩, hi, hq, hS⟩
      simp only at hi hq hS
      have hq8 : q < 18446744073709551616 := by rw [hq]; exact q_lt hv
      have hSl : S.length = i := by rw [hS, decs_len]
      cbv
      repeat' (first | with_reducible exact True.intro | with_reducible exact dr_ok hA (by kernel_rfl) | with_reducible refine And.intro ?_ ?_ | (intro hc; cbv))
      all_goals first
        | (fail_if_success (refine Exists.intro ?_ ?_)
           subst hA
           simp [std_add, std_sub, std_mul, std_quo, std_rem, std_band, std_bor, std_bxor, std_shl, std_shr, std_eq, std_ne, std_lt, std_le, std_conv, std_not, std_beq, std_bne, std_ite, std_want, std_and2, std_sadd, std_seq, std_sne, std_slt, std_sle, std_sgt, std_sge, std_slen, std_sget, std_scut, std_ofNat, std_toNat, std_nsub, std_nadd, std_lenOf, std_nz, std_nneg, std_inb, std_upto, std_slt63, std_grow, std_imp, std_impN, std_tr, std_tb, std_ti, std_ts, std_tn, std_tp, std_nmin, std_makes, std_room, std_zeros, std_nilq, std_notq, std_eqi, std_eqn, std_eqb, std_eqs, std_eqv, std_cat, std_lst, std_rset, std_rcopy, std_shift, std_eqr, std_strOf, std_bytesOf, std_isB, std_zOf, zOf_int, std_isI, isI_int, std_getL, std_nmul, std_sOf, sOf_str, std_isS, isS_str, cvb, so1z q, ib1z q, hSl] at hc ⊢ <;> first
             | omega
             | skip)
        | skip
      all_goals (try (rename_i c2; have c3 : n ≤ (i : Int) := (by simp [std_add, std_sub, std_mul, std_quo, std_rem, std_band, std_bor, std_bxor, std_shl, std_shr, std_eq, std_ne, std_lt, std_le, std_conv, std_not, std_beq, std_bne, std_ite, std_want, std_and2, std_sadd, std_seq, std_sne, std_slt, std_sle, std_sgt, std_sge, std_slen, std_sget, std_scut, std_ofNat, std_toNat, std_nsub, std_nadd, std_lenOf, std_nz, std_nneg, std_inb, std_upto, std_slt63, std_grow, std_imp, std_impN, std_tr, std_tb, std_ti, std_ts, std_tn, std_tp, std_nmin, std_makes, std_room, std_zeros, std_nilq, std_notq, std_eqi, std_eqn, std_eqb, std_eqs, std_eqv, std_cat, std_lst, std_rset, std_rcopy, std_shift, std_eqr, std_strOf, std_bytesOf, std_isB, std_zOf, zOf_int, std_isI, isI_int, std_getL, std_nmul, std_sOf, sOf_str, std_isS, isS_str] at c2; exact c2); have hE := pu_end hk hq hS (Int.le_antisymm hi c3); first | exact (hE.1 hc).1 | exact (hE.1 hc).2.symm | exact (hE.2 hc).1.symm | exact (hE.2 hc).2.symm))
      have hlt : (i : Int) < n := by
        subst hA
        simp [std_add, std_sub, std_mul, std_quo, std_rem, std_band, std_bor, std_bxor, std_shl, std_shr, std_eq, std_ne, std_lt, std_le, std_conv, std_not, std_beq, std_bne, std_ite, std_want, std_and2, std_sadd, std_seq, std_sne, std_slt, std_sle, std_sgt, std_sge, std_slen, std_sget, std_scut, std_ofNat, std_toNat, std_nsub, std_nadd, std_lenOf, std_nz, std_nneg, std_inb, std_upto, std_slt63, std_grow, std_imp, std_impN, std_tr, std_tb, std_ti, std_ts, std_tn, std_tp, std_nmin, std_makes, std_room, std_zeros, std_nilq, std_notq, std_eqi, std_eqn, std_eqb, std_eqs, std_eqv, std_cat, std_lst, std_rset, std_rcopy, std_shift, std_eqr, std_strOf, std_bytesOf, std_isB, std_zOf, zOf_int, std_isI, isI_int, std_getL, std_nmul, std_sOf, sOf_str, std_isS, isS_str] at hc
        exact hc
      obtain ⟨i', hi'⟩ : ∃ i', i' = i + 1 := ⟨_, rfl⟩
      obtain ⟨q', hq'⟩ : ∃ q', q' = q / 10 := ⟨_, rfl⟩
      have e1 : IntKind.u64.wrap ((q : Int) / 10) = (q' : Int) := e1_q hq8 hq'
      have e2 : IntKind.i64.wrap ((i : Int) + 1) = (i' : Int) := e2_q (n := n) hlt (by omega) hi'
      obtain ⟨S', hS'⟩ : ∃ S', S' = UInt8.ofNat (48 + q % 10) :: S := ⟨_, rfl⟩
      refine ⟨⟨(i', q', S'), by (show (i' : Int) ≤ n); omega, by (show q' = V / 10 ^ i'); rw [hq', hq, hi', q_step], by (show S' = decs i' V); rw [hS', hi', hS, hq, decs_push]⟩, ?_, show n.toNat - i' < n.toNat - i by omega⟩
      cbv
      subst hA
      simp [-UInt8.ofNat_add, std_add, std_sub, std_mul, std_quo, std_rem, std_band, std_bor, std_bxor, std_shl, std_shr, std_eq, std_ne, std_lt, std_le, std_conv, std_not, std_beq, std_bne, std_ite, std_want, std_and2, std_sadd, std_seq, std_sne, std_slt, std_sle, std_sgt, std_sge, std_slen, std_sget, std_scut, std_ofNat, std_toNat, std_nsub, std_nadd, std_lenOf, std_nz, std_nneg, std_inb, std_upto, std_slt63, std_grow, std_imp, std_impN, std_tr, std_tb, std_ti, std_ts, std_tn, std_tp, std_nmin, std_makes, std_room, std_zeros, std_nilq, std_notq, std_eqi, std_eqn, std_eqb, std_eqs, std_eqv, std_cat, std_lst, std_rset, std_rcopy, std_shift, std_eqr, std_strOf, std_bytesOf, std_isB, std_zOf, zOf_int, std_isI, isI_int, std_getL, std_nmul, std_sOf, sOf_str, std_isS, isS_str, cvb, so1z q]
      first
        | exact ⟨e1, hS'.symm, e2⟩
        | (rw [hS']; exact ⟨e1, rfl, e2⟩)
  all_goals (subst hA; simp [std_add, std_sub, std_mul, std_quo, std_rem, std_band, std_bor, std_bxor, std_shl, std_shr, std_eq, std_ne, std_lt, std_le, std_conv, std_not, std_beq, std_bne, std_ite, std_want, std_and2, std_sadd, std_seq, std_sne, std_slt, std_sle, std_sgt, std_sge, std_slen, std_sget, std_scut, std_ofNat, std_toNat, std_nsub, std_nadd, std_lenOf, std_nz, std_nneg, std_inb, std_upto, std_slt63, std_grow, std_imp, std_impN, std_tr, std_tb, std_ti, std_ts, std_tn, std_tp, std_nmin, std_makes, std_room, std_zeros, std_nilq, std_notq, std_eqi, std_eqn, std_eqb, std_eqs, std_eqv, std_cat, std_lst, std_rset, std_rcopy, std_shift, std_eqr, std_strOf, std_bytesOf, std_isB, std_zOf, zOf_int, std_isI, isI_int, std_getL, std_nmul, std_sOf, sOf_str, std_isS, isS_str] at *)
  all_goals first
    | exact (pu1 hc).1
    | exact (pu1 hc).2.symm
    | trace_state
end Go.Vd

/- awake; DigitRight's answer. -/
set_option linter.unusedVariables false
set_option linter.unusedSimpArgs false
set_option maxRecDepth 100000
set_option maxHeartbeats 2000000
namespace Go.Vd
open Go.Proofs
theorem good_rPut' (v n : Int) (hv : 0 ≤ v ∧ v < 18446744073709551616) (hn : -9223372036854775808 ≤ n ∧ n < 9223372036854775808) : GoodP Tryd.prog gl0 151 [.int .u64 v, .int .i64 n] (.tup [.str (std.ts fun _ => puS v n), .int .i64 (std.ti fun _ => puE v n)]) := by
  obtain ⟨V, rfl⟩ : ∃ V : Nat, v = V := ⟨v.toNat, by omega⟩
  exact good_rPut V n (by omega) hn
noncomputable def c_gPut : Ct := fun A args => match args with
  | [.int .u64 v, .int .i64 n] => some (some (A.tp fun _ => (0 ≤ v ∧ v < 18446744073709551616) ∧ (-9223372036854775808 ≤ n ∧ n < 9223372036854775808)), .tup [.str (A.ts fun _ => puS v n), .int .i64 (A.ti fun _ => puE v n)])
  | _ => none
noncomputable def c_rPut : Ct := fun A args => match args with
  | [.int .u64 v, .int .i64 n] => some (some (A.tp fun _ => (0 ≤ v ∧ v < 18446744073709551616) ∧ (-9223372036854775808 ≤ n ∧ n < 9223372036854775808)), .tup [.str (A.ts fun _ => puS v n), .int .i64 (A.ti fun _ => puE v n)])
  | _ => none
noncomputable def c_gGet : Ct := fun A args => match args with
  | [.str L] => some (none, .tup [.int .u64 (A.ti fun _ => (gVal L : Int)), .int .i64 (A.ti fun _ => gErr L)])
  | _ => none
noncomputable def c_rGet : Ct := fun A args => match args with
  | [.str L] => some (none, .tup [.int .u64 (A.ti fun _ => (gVal L : Int)), .int .i64 (A.ti fun _ => gErr L)])
  | _ => none
noncomputable def c_gCheck : Ct := fun A args => match args with
  | [.str L] => some (some (A.tp fun _ => L.length ≤ 50000), .tup [.str (A.ts fun _ => chS L), .int .i64 (A.ti fun _ => chE L)])
  | _ => none
noncomputable def gg4 : Ar → Pu := addC 69 c_gPut (addC 151 c_rPut (addC 70 c_gGet (addC 103 c_rGet (addC 16 c_gCheck (gg3)))))
theorem gg4_ok : PuOk Tryd.prog gl0 (gg4 std) := by
  refine addC_ok (addC_ok (addC_ok (addC_ok (addC_ok (gg3_ok) ⟨_, Tryd.func16, rfl, by decide⟩ ?_) ⟨_, Tryd.func103, rfl, by decide⟩ ?_) ⟨_, Tryd.func70, rfl, by decide⟩ ?_) ⟨_, Tryd.func151, rfl, by decide⟩ ?_) ⟨_, Tryd.func69, rfl, by decide⟩ ?_
  · intro args p r h hp
    unfold c_gCheck at h
    split at h <;> cases h
    exact good_gCheck _ hp
  · intro args p r h hp
    unfold c_rGet at h
    split at h <;> cases h
    exact good_rGet _
  · intro args p r h hp
    unfold c_gGet at h
    split at h <;> cases h
    exact good_gGet _
  · intro args p r h hp
    unfold c_rPut at h
    split at h <;> cases h
    exact good_rPut' _ _ hp.1 hp.2
  · intro args p r h hp
    unfold c_gPut at h
    split at h <;> cases h
    exact good_gPut _ _ hp.1 hp.2
theorem aw1 : puS 42 5 = [48, 48, 48, 52, 50] ∧ puE 42 5 = 0 ∧ puE 100 2 = 10 := by decide +kernel
theorem aw2 : (gVal [48, 48, 48, 52, 50] : Int) = 42 ∧ gErr [48, 48, 48, 52, 50] = 0 := by decide +kernel
theorem aw3 : chS [55, 57, 57, 50, 55, 51, 57, 56, 55, 49] = [51] ∧ chE [55, 57, 57, 50, 55, 51, 57, 56, 55, 49] = 0 := by decide +kernel
theorem aw4 : lFine [55, 57, 57, 50, 55, 51, 57, 56, 55, 49, 51] = true ∧ lFine [55, 57, 57, 50, 55, 51, 57, 56, 55, 49, 50] = false ∧ isD [48] = true := by decide +kernel
theorem good_awake  : GoodP Tryd.prog gl0 15 [] (.bool true) := by
  refine fn_sound' (T := seatT) (G := gg4) (X := noX) seatT_ok gg4_ok noX_ok noI_ok mixed Tryd.func15 (.one) (fun A => []) (fun A => .bool true) fun A hA => ?_
  cbv
  repeat' (first | with_reducible exact True.intro | with_reducible exact dr_ok hA (by kernel_rfl) | with_reducible refine And.intro ?_ ?_ | (intro hc; cbv))
  all_goals (subst hA; simp [std_add, std_sub, std_mul, std_quo, std_rem, std_band, std_bor, std_bxor, std_shl, std_shr, std_eq, std_ne, std_lt, std_le, std_conv, std_not, std_beq, std_bne, std_ite, std_want, std_and2, std_sadd, std_seq, std_sne, std_slt, std_sle, std_sgt, std_sge, std_slen, std_sget, std_scut, std_ofNat, std_toNat, std_nsub, std_nadd, std_lenOf, std_nz, std_nneg, std_inb, std_upto, std_slt63, std_grow, std_imp, std_impN, std_tr, std_tb, std_ti, std_ts, std_tn, std_tp, std_nmin, std_makes, std_room, std_zeros, std_nilq, std_notq, std_eqi, std_eqn, std_eqb, std_eqs, std_eqv, std_cat, std_lst, std_rset, std_rcopy, std_shift, std_eqr, std_strOf, std_bytesOf, std_isB, std_zOf, zOf_int, std_isI, isI_int, std_getL, std_nmul, std_sOf, sOf_str, std_isS, isS_str, aw1, aw2, aw3, aw4] at *)
  all_goals trace_state
noncomputable def c_awake : Ct := fun A args => match args with
  | [] => some (none, .bool true)
  | _ => none
noncomputable def gg5 : Ar → Pu := addC 15 c_awake (gg4)
theorem gg5_ok : PuOk Tryd.prog gl0 (gg5 std) := by
  refine addC_ok (gg4_ok) ⟨_, Tryd.func15, rfl, by decide⟩ ?_
  · intro args p r h hp
    unfold c_awake at h
    split at h <;> cases h
    exact good_awake
end Go.Vd
