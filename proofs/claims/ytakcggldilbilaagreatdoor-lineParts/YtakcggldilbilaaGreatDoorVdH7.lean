/- The library's functions that digits lean on, as contracts: FormatUint, Itoa, Repeat; check digits. -/
import Derived.Test.YtakcggldilbilaaGreatDoorVdG4
import Derived.Laws.RangeString
import Derived.Laws.RangeAny
import Derived.WalkKit
import Derived.LoopTactic
set_option linter.unusedVariables false
set_option linter.unusedSimpArgs false
set_option maxRecDepth 100000
set_option maxHeartbeats 2000000
namespace Go.Vd
open Go.Proofs
theorem grow_ext (w : World) (k : Nat) (os : Array Obj) : Ext w (Go.Sort.grow (w.drewN k) os) := by
  refine ⟨rfl, rfl, rfl, ?_, fun b hb _ => ?_⟩
  · simp [Go.Sort.grow]
  · simp [Go.Sort.grow, Array.getElem?_append, hb]
theorem gTab : Tryz.prog.globalNamed "internal/strconv.uint64pow10" = some 2 := by kernel_rfl
/-- The table, from what is known of the package's variables. -/
theorem tab_of {w : World} {rw : Nat → Prop} (h : GlOk gl0 w rw) : Lib.TabIs Tryz.prog w "internal/strconv.uint64pow10" .u64 Lib.pow10Tab := by
  obtain ⟨⟨cs, t, b, hc, hs⟩, _⟩ := h.2 2 20 _ rfl
  have h1 := h.1 2 (fun _ => undef) fun _ => False
  unfold Lib.TabIs World.var?
  rw [gTab]
  simp only [Option.bind_some, hc, Option.some.injEq]
  apply Array.ext
  · rw [hs]; simp [Lib.pow10Tab_length]
  · intro j hj _
    rw [hs] at hj
    have h2 : w.cell? ⟨2, j, none⟩ = some (.int .u64 (Lib.pow10Tab.getD j 0)) := by
      generalize hg : gl0 2 = s at h1
      generalize hv : Value.pointer (some ⟨2, 0, none⟩) = pv at h1
      cases h1 with
      | rop a k f g hsp hcc hr =>
        have e2 : (SV.rop 20 fun j => .int .u64 (Lib.pow10Tab.getD j 0)) = .rop k f := hg
        cases e2
        cases hv
        have e3 := (hcc j hj).1
        have e4 := hr j hj
        have e5 : g j = .int .u64 (Lib.pow10Tab.getD j 0) := by
          generalize g j = v at e4
          cases e4 with
          | int => rfl
        rw [Lib.add_plain, Nat.zero_add, e5] at e3
        exact e3
      | _ => exact absurd (show (SV.rop 20 fun j => .int .u64 (Lib.pow10Tab.getD j 0)) = _ from hg) (by intro e; cases e)
    have h3 : cs[j]? = some (.int .u64 (Lib.pow10Tab.getD j 0)) := by
      unfold World.cell? at h2
      rw [hc] at h2
      exact h2
    have hjs : j < cs.size := by omega
    rw [Array.getElem?_eq_getElem hjs] at h3
    rw [Option.some.inj h3, List.getD_eq_getElem?_getD, List.getElem?_eq_getElem (by rw [Lib.pow10Tab_length]; exact hj)]
    simp
theorem dec_small {k : Nat} (h : k < 10) : Lib.decDigits k = [dC k] := by rw [Lib.decDigits, dif_pos h]; rfl
theorem ba_eta (s : ByteArray) : (⟨s.data.toList.toArray⟩ : ByteArray) = s := by cases s; simp
theorem good_FmtU (u : Nat) (hu : u < 18446744073709551616) : GoodP Tryz.prog gl0 146 [.int .u64 (u : Int), .int .i64 10] (.str (std.ts fun _ => Lib.decDigits u)) := by
  intro w ρ rw N vs hfr hrw hg hargs
  match vs, hargs with
  | [v1, v2], ⟨r1, r2, _⟩ =>
    generalize hs1 : SV.int .u64 (u : Int) = s1 at r1
    generalize hs2 : SV.int .i64 10 = s2 at r2
    cases r1 with
    | int kk n =>
      cases r2 with
      | int kk2 n2 =>
        cases hs1
        cases hs2
        have hpost : Calls Tryz.prog 166 #[.int .u64 (u : Int), .int .i64 10] w fun e w' => e = .returned (.string ⟨(Lib.decDigits u).toArray⟩) ∧ Ext w w' := by
          by_cases h : u < 100
          · refine (fmtU_small u h w).mono fun e w' hq => ?_
            obtain ⟨rfl, rfl⟩ := hq
            exact ⟨rfl, Keep.refl _ _⟩
          · refine (fmtU_big u (by omega) hu w (tab_of hg)).mono fun e w' hq => ?_
            obtain ⟨rfl, k, os, rfl⟩ := hq
            exact ⟨rfl, grow_ext w k os⟩
        have hall : Calls Tryz.prog 146 #[.int .u64 (u : Int), .int .i64 10] w fun e w' => e = .returned (.string ⟨(Lib.decDigits u).toArray⟩) ∧ Ext w w' := by
          go_enter Tryz.func146, Tryz.ntmps146
          go_wp2_with (go_at_call 166; refine hpost.mono ?_; rintro e w' ⟨rfl, hx⟩)
          go_ret
          exact ⟨rfl, hx⟩
        refine hall.mono fun e w' hq => ?_
        obtain ⟨rfl, hx⟩ := hq
        refine ⟨_, rfl, hx, fun key _ => ?_⟩
        have h : Rel w' ρ rw N (.string ⟨(Lib.decDigits u).toArray⟩) (.str (Lib.decDigits u).toArray.toList) := Rel.str _
        rw [List.toList_toArray] at h
        exact h
      | _ => cases hs2
    | _ => cases hs1
theorem good_Repeat (L : List UInt8) (c : Nat) (hc : c ≤ 1000 ∧ L.length ≤ 1000) : GoodP Tryz.prog gl0 144 [.str L, .int .i64 (c : Int)] (.str (std.ts fun _ => Lib.repeatL L c)) := by
  intro w ρ rw N vs hfr hrw hg hargs
  match vs, hargs with
  | [v1, v2], ⟨r1, r2, _⟩ =>
    generalize hs1 : SV.str L = s1 at r1
    generalize hs2 : SV.int .i64 (c : Int) = s2 at r2
    cases r1 with
    | str s =>
      cases r2 with
      | int kk2 n2 =>
        cases hs1
        cases hs2
        have hl : s.size ≤ 1000 := by have h9 := hc.2; rw [Array.length_toList] at h9; exact h9
        have hm : s.size * c ≤ 1000 * 1000 := Nat.mul_le_mul hl hc.1
        refine (Tryz.strings_Repeat s c w (by omega) (by omega)).mono fun e w' hq => ?_
        obtain ⟨rfl, hb⟩ := hq
        refine ⟨_, rfl, Ext.of_below hb, fun key _ => ?_⟩
        have h : Rel w' ρ rw N (.string ⟨(Lib.repeatL s.data.toList c).toArray⟩) (.str (Lib.repeatL s.data.toList c).toArray.toList) := Rel.str _
        rw [List.toList_toArray] at h
        exact h
      | _ => cases hs2
    | _ => cases hs1
theorem good_FmtU' (u : Int) (hu : 0 ≤ u ∧ u < 18446744073709551616) : GoodP Tryz.prog gl0 146 [.int .u64 u, .int .i64 10] (.str (std.ts fun _ => Lib.decDigits u.toNat)) := by
  obtain ⟨m, rfl⟩ : ∃ m : Nat, u = m := ⟨u.toNat, by omega⟩
  exact good_FmtU m (by omega)
theorem good_Repeat' (L : List UInt8) (c : Int) (hc : 0 ≤ c ∧ c ≤ 1000 ∧ L.length ≤ 1000) : GoodP Tryz.prog gl0 144 [.str L, .int .i64 c] (.str (std.ts fun _ => Lib.repeatL L c.toNat)) := by
  obtain ⟨m, rfl⟩ : ∃ m : Nat, c = m := ⟨c.toNat, by omega⟩
  exact good_Repeat L m ⟨by omega, hc.2.2⟩
noncomputable def c_FmtU : Ct := fun A args => match args with
  | [.int .u64 u, .int .i64 10] => some (some (A.tp fun _ => 0 ≤ u ∧ u < 18446744073709551616), .str (A.ts fun _ => Lib.decDigits u.toNat))
  | _ => none
noncomputable def c_Repeat : Ct := fun A args => match args with
  | [.str L, .int .i64 c] => some (some (A.tp fun _ => 0 ≤ c ∧ c ≤ 1000 ∧ L.length ≤ 1000), .str (A.ts fun _ => Lib.repeatL L c.toNat))
  | _ => none
noncomputable def c_gFine : Ct := fun A args => match args with
  | [.str L] => some (some (A.tp fun _ => L.length ≤ 100000), .bool (A.tb fun _ => lFine L))
  | _ => none
noncomputable def c_rFine : Ct := fun A args => match args with
  | [.str L] => some (some (A.tp fun _ => L.length ≤ 100000), .bool (A.tb fun _ => lFine L))
  | _ => none
noncomputable def gg3 : Ar → Pu := addC 146 c_FmtU (addC 144 c_Repeat (addC 61 c_gFine (addC 67 c_rFine (gg2))))
theorem gg3_ok : PuOk Tryz.prog gl0 (gg3 std) := by
  refine addC_ok (addC_ok (addC_ok (addC_ok (gg2_ok) ⟨_, Tryz.func67, rfl, by decide⟩ ?_) ⟨_, Tryz.func61, rfl, by decide⟩ ?_) ⟨_, Tryz.func144, rfl, by decide⟩ ?_) ⟨_, Tryz.func146, rfl, by decide⟩ ?_
  · intro args p r h hp
    unfold c_rFine at h
    split at h <;> cases h
    exact good_rFine _ hp
  · intro args p r h hp
    unfold c_gFine at h
    split at h <;> cases h
    exact good_gFine _ hp
  · intro args p r h hp
    unfold c_Repeat at h
    split at h <;> cases h
    exact good_Repeat' _ _ hp
  · intro args p r h hp
    unfold c_FmtU at h
    split at h <;> cases h
    exact good_FmtU' _ hp
def chS (L : List UInt8) : List UInt8 := if isD L = true then [dC (lCheck L)] else []
def chE (L : List UInt8) : Int := if isD L = true then 0 else 3
theorem ch1 {L : List UInt8} (h : isD L = true) : chS L = [dC (lCheck L)] ∧ chE L = 0 := ⟨if_pos h, if_pos h⟩
theorem ch0 {L : List UInt8} (h : isD L = false) : chS L = [] ∧ chE L = 3 := by
  unfold chS chE; rw [h]; exact ⟨rfl, rfl⟩
theorem ck_eq (n : Nat) : ((IntKind.i64.wrap (10 - (n : Int).tmod 10)).tmod 10) = (((10 - n % 10) % 10 : Nat) : Int) := by
  rw [Int.tmod_eq_emod_of_nonneg (by omega : (0:Int) ≤ n), w64 (by omega), Int.tmod_eq_emod_of_nonneg (by omega)]
  omega
theorem repl_eq : ∀ n, Lib.repeatL [48] n = List.replicate n (48 : UInt8)
  | 0 => rfl
  | n + 1 => by rw [Lib.repeatL, repl_eq n]; rfl
theorem decs_zero : ∀ n, decs n 0 = List.replicate n (48 : UInt8)
  | 0 => rfl
  | n + 1 => by
    rw [decs, Nat.zero_div, decs_zero n, List.replicate_succ']
    rfl
theorem nd_le : ∀ (n u : Nat), 1 ≤ n → u < 10 ^ n → Lib.nDigits u ≤ n
  | 0, _, h, _ => absurd h (by omega)
  | n + 1, u, _, h => by
    by_cases h1 : u < 10
    · rw [Lib.nDigits_small h1]; omega
    · rw [Lib.nDigits_big h1]
      rw [Nat.pow_succ] at h
      have h2 : u / 10 < 10 ^ n := by omega
      have h3 : 1 ≤ n := by
        rcases Nat.eq_zero_or_pos n with h4 | h4
        · subst h4; simp at h2; omega
        · exact h4
      have := nd_le n (u / 10) h3 h2
      omega
theorem nd_iff {n u : Nat} (hn : 1 ≤ n) : Lib.nDigits u ≤ n ↔ u < 10 ^ n :=
  ⟨fun h => Nat.lt_of_lt_of_le (Lib.lt_pow_nDigits u) (Nat.pow_le_pow_right (by omega) h), nd_le n u hn⟩
theorem rep_decs : ∀ (n u : Nat), 1 ≤ n → u < 10 ^ n → Lib.repeatL [48] (n - Lib.nDigits u) ++ Lib.decDigits u = decs n u
  | 0, _, h, _ => absurd h (by omega)
  | n + 1, u, _, h => by
    by_cases h1 : u < 10
    · rw [Lib.nDigits_small h1, Lib.decDigits, dif_pos h1, decs, Nat.div_eq_of_lt h1, decs_zero, repl_eq, Nat.mod_eq_of_lt h1]
      rfl
    · rw [Nat.pow_succ] at h
      have h2 : u / 10 < 10 ^ n := by omega
      have h3 : 1 ≤ n := by
        rcases Nat.eq_zero_or_pos n with h4 | h4
        · subst h4; simp at h2; omega
        · exact h4
      rw [Lib.nDigits_big h1, Lib.decDigits, dif_neg h1, decs, Nat.add_sub_add_right, ← List.append_assoc, rep_decs n (u / 10) h3 h2]
def puS (v n : Int) : List UInt8 := if n < 1 ∨ 19 < n then [] else if 10 ^ n.toNat ≤ v.toNat then [] else decs n.toNat v.toNat
def puE (v n : Int) : Int := if n < 1 ∨ 19 < n then 1 else if 10 ^ n.toNat ≤ v.toNat then 10 else 0
theorem pu1 {v n : Int} (h : n < 1 ∨ 19 < n) : puS v n = [] ∧ puE v n = 1 := ⟨if_pos h, if_pos h⟩
theorem pu2 {v n : Int} (h : ¬(n < 1 ∨ 19 < n)) (h2 : 10 ^ n.toNat ≤ v.toNat) : puS v n = [] ∧ puE v n = 10 := by
  unfold puS puE; rw [if_neg h, if_neg h, if_pos h2, if_pos h2]; exact ⟨rfl, rfl⟩
theorem pu3 {v n : Int} (h : ¬(n < 1 ∨ 19 < n)) (h2 : ¬10 ^ n.toNat ≤ v.toNat) : puS v n = decs n.toNat v.toNat ∧ puE v n = 0 := by
  unfold puS puE; rw [if_neg h, if_neg h, if_neg h2, if_neg h2]; exact ⟨rfl, rfl⟩
theorem pl_iff {v n : Int} (h : ¬(n < 1 ∨ 19 < n)) : ((Lib.decDigits v.toNat).length : Int) ≤ n ↔ ¬10 ^ n.toNat ≤ v.toNat := by
  rw [Lib.decDigits_length]
  have := nd_iff (n := n.toNat) (u := v.toNat) (by omega)
  rw [Nat.not_le, ← this]
  omega
theorem rl_len (n : Nat) : (Lib.repeatL [48] n).length = n := by rw [repl_eq, List.length_replicate]
theorem pu_fin {v n : Int} (h : ¬(n < 1 ∨ 19 < n)) (hc : ((Lib.decDigits v.toNat).length : Int) ≤ n) : Lib.repeatL [48] (IntKind.i64.wrap (n - ((Lib.decDigits v.toNat).length : Int))).toNat ++ Lib.decDigits v.toNat = puS v n := by
  rw [(pu3 h ((pl_iff h).1 hc)).1, ← rep_decs n.toNat v.toNat (by omega) (Nat.not_le.1 ((pl_iff h).1 hc)), w64 (by omega), ← Lib.decDigits_length]
  congr 2
  omega
theorem good_gPut (v n : Int) (hv : 0 ≤ v ∧ v < 18446744073709551616) (hn : -9223372036854775808 ≤ n ∧ n < 9223372036854775808) : GoodP Tryz.prog gl0 109 [.int .u64 v, .int .i64 n] (.tup [.str (std.ts fun _ => puS v n), .int .i64 (std.ti fun _ => puE v n)]) := by
  refine fn_sound' (T := seatT) (G := gg3) (X := noX) seatT_ok gg3_ok noX_ok noI_ok mixed Tryz.func109 (.one) (fun A => [.int .u64 v, .int .i64 n]) (fun A => .tup [.str (A.ts fun _ => puS v n), .int .i64 (A.ti fun _ => puE v n)]) fun A hA => ?_
  cbv
  repeat' (first | with_reducible exact True.intro | with_reducible exact dr_ok hA (by kernel_rfl) | with_reducible refine And.intro ?_ ?_ | (intro hc; cbv))
  all_goals (subst hA; simp [std_add, std_sub, std_mul, std_quo, std_rem, std_band, std_bor, std_bxor, std_shl, std_shr, std_eq, std_ne, std_lt, std_le, std_conv, std_not, std_beq, std_bne, std_ite, std_want, std_and2, std_sadd, std_seq, std_sne, std_slt, std_sle, std_sgt, std_sge, std_slen, std_sget, std_scut, std_ofNat, std_toNat, std_nsub, std_nadd, std_lenOf, std_nz, std_nneg, std_inb, std_upto, std_slt63, std_grow, std_imp, std_impN, std_tr, std_tb, std_ti, std_ts, std_tn, std_tp, std_nmin, std_makes, std_room, std_zeros, std_nilq, std_notq, std_eqi, std_eqn, std_eqb, std_eqs, std_eqv, std_cat, std_lst, std_rset, std_rcopy, std_shift, std_eqr, std_strOf, std_bytesOf, std_isB, std_zOf, zOf_int, std_isI, isI_int, std_getL, std_nmul, std_sOf, sOf_str, std_isS, isS_str] at *)
  all_goals first
    | exact (pu1 hc).1
    | exact (pu1 hc).2.symm
    | exact hv
    | (have h : ¬(n < 1 ∨ 19 < n) := by omega
       have hl := pl_iff (v := v) h
       first
         | exact (pu2 h (by omega)).1
         | exact (pu2 h (by omega)).2.symm
         | exact pu_fin h hc
         | exact (pu3 h (hl.1 hc)).2.symm
         | (rw [w64 (by omega)]; constructor <;> omega)
         | (rw [rl_len, w64 (by omega)]; omega))
    | trace_state
theorem rep1 {d : Nat} (h : d < 256) : Reps eB 0 1 1 (lstS [[SV.int .u8 (d : Int)]]) [UInt8.ofNat d] := by
  refine ⟨rfl, fun i j hi hj => .of_eq ?_⟩
  obtain rfl : i = 0 := by omega
  obtain rfl : j = 0 := by omega
  show SV.int .u8 (d : Int) = SV.int .u8 (((UInt8.ofNat d).toNat : Nat) : Int)
  rw [UInt8.toNat_ofNat_of_lt' (by simpa using h)]
theorem so1 {d : Nat} (h : d < 256) : strOfS 1 (lstS [[SV.int .u8 (d : Int)]]) = [UInt8.ofNat d] := strOf_row (rep1 h)
theorem ib1 {d : Nat} (h : d < 256) : isBS 1 (lstS [[SV.int .u8 (d : Int)]]) := isB_row (rep1 h)
theorem chk_hit {L : List UInt8} {d : Nat} (hk : isD L = true) (hd : 48 ≤ d ∧ d ≤ 57) (h : lFine (L ++ [UInt8.ofNat d]) = true) : [UInt8.ofNat d] = chS L := by
  have e : UInt8.ofNat d = dC (d - 48) := by unfold dC; rw [show 48 + (d - 48) = d by omega]
  rw [e, lFine_snoc hk (by omega), decide_eq_true_eq] at h
  rw [e, h, (ch1 hk).1]
theorem chk_end {L : List UInt8} (hk : isD L = true) (hf : ∀ j, 48 ≤ j → j < 57 → lFine (L ++ [UInt8.ofNat j]) = false) : [57] = chS L := by
  have hc : lCheck L < 10 := Nat.mod_lt _ (by omega)
  rw [(ch1 hk).1]
  by_cases h9 : lCheck L = 9
  · rw [h9]; rfl
  · have := hf (48 + lCheck L) (by omega) (by omega)
    have h2 := lFine_snoc hk hc
    unfold dC at h2
    rw [this] at h2
    simp at h2
end Go.Vd

set_option linter.unusedVariables false
set_option linter.unusedSimpArgs false
set_option maxRecDepth 100000
set_option maxHeartbeats 2000000
namespace Go.Vd
open Go.Proofs
theorem decs_push : ∀ (n v : Nat), UInt8.ofNat (48 + v / 10 ^ n % 10) :: decs n v = decs (n + 1) v
  | 0, v => by simp [decs]
  | n + 1, v => by
    have e := decs_push n (v / 10)
    show UInt8.ofNat (48 + v / 10 ^ (n + 1) % 10) :: (decs n (v / 10) ++ [UInt8.ofNat (48 + v % 10)]) = decs (n + 1) (v / 10) ++ [UInt8.ofNat (48 + v % 10)]
    rw [← e, Nat.div_div_eq_div_mul, Nat.pow_succ, Nat.mul_comm 10]
    rfl
theorem cvb (q : Nat) : IntKind.u8.wrap (IntKind.u64.wrap (48 + (q : Int).tmod 10)) = ((48 + q % 10 : Nat) : Int) := by
  rw [Int.tmod_eq_emod_of_nonneg (by omega), wU64' (by omega), wU8' (by omega)]
  omega
theorem so1q (q : Nat) : strOfS 1 (lstS [[SV.int .u8 ((48 + q % 10 : Nat) : Int)]]) = [UInt8.ofNat (48 + q % 10)] := so1 (by omega)
theorem ib1q (q : Nat) : isBS 1 (lstS [[SV.int .u8 ((48 + q % 10 : Nat) : Int)]]) := ib1 (by omega)
theorem q_lt {V i : Nat} (h : V < 18446744073709551616) : V / 10 ^ i < 18446744073709551616 := Nat.lt_of_le_of_lt (Nat.div_le_self _ _) h
theorem q_step (V i : Nat) : V / 10 ^ i / 10 = V / 10 ^ (i + 1) := by rw [Nat.div_div_eq_div_mul, Nat.pow_succ]
theorem q_end (V n : Nat) : V / 10 ^ n = 0 ↔ ¬10 ^ n ≤ V := by
  rw [Nat.div_eq_zero_iff, Nat.not_le]
  have : 0 < 10 ^ n := Nat.pow_pos (by omega)
  omega
theorem so1z (q : Nat) : strOfS 1 (lstS [[SV.int .u8 (48 + (q : Int) % 10)]]) = [UInt8.ofNat (48 + q % 10)] := by
  have h := so1q q
  rw [show ((48 + q % 10 : Nat) : Int) = 48 + (q : Int) % 10 by omega] at h
  exact h
theorem ib1z (q : Nat) : isBS 1 (lstS [[SV.int .u8 (48 + (q : Int) % 10)]]) := by
  have h := ib1q q
  rw [show ((48 + q % 10 : Nat) : Int) = 48 + (q : Int) % 10 by omega] at h
  exact h
theorem pu_end {V i q : Nat} {n : Int} {S : List UInt8} (hk : ¬(n < 1 ∨ 19 < n)) (hq : q = V / 10 ^ i) (hS : S = decs i V) (hin : (i : Int) = n) : (¬q = 0 → puS (V : Int) n = [] ∧ puE (V : Int) n = 10) ∧ (q = 0 → puS (V : Int) n = S ∧ puE (V : Int) n = 0) := by
  have hi : i = n.toNat := by omega
  have hz := q_end V n.toNat
  rw [hi] at hq hS
  have hV : ((V : Int)).toNat = V := Int.toNat_natCast V
  constructor
  · intro h
    refine pu2 hk ?_
    rw [hV]
    rw [hq] at h
    omega
  · intro h
    rw [hq] at h
    have h3 := pu3 (v := (V : Int)) hk (by rw [hV]; exact hz.1 h)
    rw [hV] at h3
    rw [hS]
    exact h3
theorem e1_q {q q' : Nat} (h : q < 18446744073709551616) (e : q' = q / 10) : IntKind.u64.wrap ((q : Int) / 10) = (q' : Int) := by
  rw [wU64' (n := (q : Int) / 10) (by omega)]; omega
theorem e2_q {i i' : Nat} {n : Int} (h : (i : Int) < n) (hn : n ≤ 19) (e : i' = i + 1) : IntKind.i64.wrap ((i : Int) + 1) = (i' : Int) := by
  rw [w64 (n := (i : Int) + 1) (by omega)]; omega
theorem good_rPut (V : Nat) (n : Int) (hv : V < 18446744073709551616) (hn : -9223372036854775808 ≤ n ∧ n < 9223372036854775808) : GoodP Tryz.prog gl0 154 [.int .u64 (V : Nat), .int .i64 n] (.tup [.str (std.ts fun _ => puS (V : Int) n), .int .i64 (std.ti fun _ => puE (V : Int) n)]) := by
  refine fn_sound' (T := seatT) (G := gg3) (X := noX) seatT_ok gg3_ok noX_ok noI_ok mixed Tryz.func154 (.one) (fun A => [.int .u64 (V : Nat), .int .i64 n]) (fun A => .tup [.str (A.ts fun _ => puS (V : Int) n), .int .i64 (A.ti fun _ => puE (V : Int) n)]) fun A hA => ?_
  cbv
  repeat' (first | with_reducible exact True.intro | with_reducible exact dr_ok hA (by kernel_rfl) | with_reducible refine And.intro ?_ ?_ | (intro hc; cbv))
  rotate_right
  · have hk : ¬(n < 1 ∨ 19 < n) := by
      subst hA
      simp [std_add, std_sub, std_mul, std_quo, std_rem, std_band, std_bor, std_bxor, std_shl, std_shr, std_eq, std_ne, std_lt, std_le, std_conv, std_not, std_beq, std_bne, std_ite, std_want, std_and2, std_sadd, std_seq, std_sne, std_slt, std_sle, std_sgt, std_sge, std_slen, std_sget, std_scut, std_ofNat, std_toNat, std_nsub, std_nadd, std_lenOf, std_nz, std_nneg, std_inb, std_upto, std_slt63, std_grow, std_imp, std_impN, std_tr, std_tb, std_ti, std_ts, std_tn, std_tp, std_nmin, std_makes, std_room, std_zeros, std_nilq, std_notq, std_eqi, std_eqn, std_eqb, std_eqs, std_eqv, std_cat, std_lst, std_rset, std_rcopy, std_shift, std_eqr, std_strOf, std_bytesOf, std_isB, std_zOf, zOf_int, std_isI, isI_int, std_getL, std_nmul, std_sOf, sOf_str, std_isS, isS_str] at hc
      omega
    clear hc
    refine ⟨⟨{p : Nat × Nat × List UInt8 // (p.1 : Int) ≤ n ∧ p.2.1 = V / 10 ^ p.1 ∧ p.2.2 = decs p.1 V}, fun b p => [(0, .int .u64 (p.1.2.1 : Nat)), (6, .str p.1.2.2), (7, .int .i64 (p.1.1 : Nat))], fun b p => [], fun p => n.toNat - p.1.1, true⟩, ⟨⟨(0, V, []), by omega, by simp, rfl⟩, ?_⟩, ?_⟩
    · cbv
      subst hA
      simp [-List.getD_eq_getElem?_getD, std_add, std_sub, std_mul, std_quo, std_rem, std_band, std_bor, std_bxor, std_shl, std_shr, std_eq, std_ne, std_lt, std_le, std_conv, std_not, std_beq, std_bne, std_ite, std_want, std_and2, std_sadd, std_seq, std_sne, std_slt, std_sle, std_sgt, std_sge, std_slen, std_sget, std_scut, std_ofNat, std_toNat, std_nsub, std_nadd, std_lenOf, std_nz, std_nneg, std_inb, std_upto, std_slt63, std_grow, std_imp, std_impN, std_tr, std_tb, std_ti, std_ts, std_tn, std_tp, std_nmin, std_makes, std_room, std_zeros, std_nilq, std_notq, std_eqi, std_eqn, std_eqb, std_eqs, std_eqv, std_cat, std_lst, std_rset, std_rcopy, std_shift, std_eqr, std_strOf, std_bytesOf, std_isB, std_zOf, zOf_int, std_isI, isI_int, std_getL, std_nmul, std_sOf, sOf_str, std_isS, isS_str]
    · rintro ⟨⟨i, q, S⟩, hi, hq, hS⟩
      simp only at hi hq hS
      have hq8 : q < 18446744073709551616 := by rw [hq]; exact q_lt hv
      have hSl : S.length = i := by rw [hS, decs_len]
      cbv
      repeat' (first | with_reducible exact True.intro | with_reducible exact dr_ok hA (by kernel_rfl) | with_reducible refine And.intro ?_ ?_ | (intro hc; cbv))
      all_goals first
        | (fail_if_success (refine Exists.intro ?_ ?_)
           subst hA
           simp [std_add, std_sub, std_mul, std_quo, std_rem, std_band, std_bor, std_bxor, std_shl, std_shr, std_eq, std_ne, std_lt, std_le, std_conv, std_not, std_beq, std_bne, std_ite, std_want, std_and2, std_sadd, std_seq, std_sne, std_slt, std_sle, std_sgt, std_sge, std_slen, std_sget, std_scut, std_ofNat, std_toNat, std_nsub, std_nadd, std_lenOf, std_nz, std_nneg, std_inb, std_upto, std_slt63, std_grow, std_imp, std_impN, std_tr, std_tb, std_ti, std_ts, std_tn, std_tp, std_nmin, std_makes, std_room, std_zeros, std_nilq, std_notq, std_eqi, std_eqn, std_eqb, std_eqs, std_eqv, std_cat, std_lst, std_rset, std_rcopy, std_shift, std_eqr, std_strOf, std_bytesOf, std_isB, std_zOf, zOf_int, std_isI, isI_int, std_getL, std_nmul, std_sOf, sOf_str, std_isS, isS_str, cvb, so1z q, ib1z q, hSl] at hc ⊢ <;> first
             | omega
             | skip)
        | skip
      all_goals (try (rename_i c2; have c3 : n ≤ (i : Int) := (by simp [std_add, std_sub, std_mul, std_quo, std_rem, std_band, std_bor, std_bxor, std_shl, std_shr, std_eq, std_ne, std_lt, std_le, std_conv, std_not, std_beq, std_bne, std_ite, std_want, std_and2, std_sadd, std_seq, std_sne, std_slt, std_sle, std_sgt, std_sge, std_slen, std_sget, std_scut, std_ofNat, std_toNat, std_nsub, std_nadd, std_lenOf, std_nz, std_nneg, std_inb, std_upto, std_slt63, std_grow, std_imp, std_impN, std_tr, std_tb, std_ti, std_ts, std_tn, std_tp, std_nmin, std_makes, std_room, std_zeros, std_nilq, std_notq, std_eqi, std_eqn, std_eqb, std_eqs, std_eqv, std_cat, std_lst, std_rset, std_rcopy, std_shift, std_eqr, std_strOf, std_bytesOf, std_isB, std_zOf, zOf_int, std_isI, isI_int, std_getL, std_nmul, std_sOf, sOf_str, std_isS, isS_str] at c2; exact c2); have hE := pu_end hk hq hS (Int.le_antisymm hi c3); first | exact (hE.1 hc).1 | exact (hE.1 hc).2.symm | exact (hE.2 hc).1.symm | exact (hE.2 hc).2.symm))
      have hlt : (i : Int) < n := by
        subst hA
        simp [std_add, std_sub, std_mul, std_quo, std_rem, std_band, std_bor, std_bxor, std_shl, std_shr, std_eq, std_ne, std_lt, std_le, std_conv, std_not, std_beq, std_bne, std_ite, std_want, std_and2, std_sadd, std_seq, std_sne, std_slt, std_sle, std_sgt, std_sge, std_slen, std_sget, std_scut, std_ofNat, std_toNat, std_nsub, std_nadd, std_lenOf, std_nz, std_nneg, std_inb, std_upto, std_slt63, std_grow, std_imp, std_impN, std_tr, std_tb, std_ti, std_ts, std_tn, std_tp, std_nmin, std_makes, std_room, std_zeros, std_nilq, std_notq, std_eqi, std_eqn, std_eqb, std_eqs, std_eqv, std_cat, std_lst, std_rset, std_rcopy, std_shift, std_eqr, std_strOf, std_bytesOf, std_isB, std_zOf, zOf_int, std_isI, isI_int, std_getL, std_nmul, std_sOf, sOf_str, std_isS, isS_str] at hc
        exact hc
      obtain ⟨i', hi'⟩ : ∃ i', i' = i + 1 := ⟨_, rfl⟩
      obtain ⟨q', hq'⟩ : ∃ q', q' = q / 10 := ⟨_, rfl⟩
      have e1 : IntKind.u64.wrap ((q : Int) / 10) = (q' : Int) := e1_q hq8 hq'
      have e2 : IntKind.i64.wrap ((i : Int) + 1) = (i' : Int) := e2_q (n := n) hlt (by omega) hi'
      obtain ⟨S', hS'⟩ : ∃ S', S' = UInt8.ofNat (48 + q % 10) :: S := ⟨_, rfl⟩
      refine ⟨⟨(i', q', S'), by (show (i' : Int) ≤ n); omega, by (show q' = V / 10 ^ i'); rw [hq', hq, hi', q_step], by (show S' = decs i' V); rw [hS', hi', hS, hq, decs_push]⟩, ?_, show n.toNat - i' < n.toNat - i by omega⟩
      cbv
      subst hA
      simp [-UInt8.ofNat_add, std_add, std_sub, std_mul, std_quo, std_rem, std_band, std_bor, std_bxor, std_shl, std_shr, std_eq, std_ne, std_lt, std_le, std_conv, std_not, std_beq, std_bne, std_ite, std_want, std_and2, std_sadd, std_seq, std_sne, std_slt, std_sle, std_sgt, std_sge, std_slen, std_sget, std_scut, std_ofNat, std_toNat, std_nsub, std_nadd, std_lenOf, std_nz, std_nneg, std_inb, std_upto, std_slt63, std_grow, std_imp, std_impN, std_tr, std_tb, std_ti, std_ts, std_tn, std_tp, std_nmin, std_makes, std_room, std_zeros, std_nilq, std_notq, std_eqi, std_eqn, std_eqb, std_eqs, std_eqv, std_cat, std_lst, std_rset, std_rcopy, std_shift, std_eqr, std_strOf, std_bytesOf, std_isB, std_zOf, zOf_int, std_isI, isI_int, std_getL, std_nmul, std_sOf, sOf_str, std_isS, isS_str, cvb, so1z q]
      first
        | exact ⟨e1, hS'.symm, e2⟩
        | (rw [hS']; exact ⟨e1, rfl, e2⟩)
  all_goals (subst hA; simp [std_add, std_sub, std_mul, std_quo, std_rem, std_band, std_bor, std_bxor, std_shl, std_shr, std_eq, std_ne, std_lt, std_le, std_conv, std_not, std_beq, std_bne, std_ite, std_want, std_and2, std_sadd, std_seq, std_sne, std_slt, std_sle, std_sgt, std_sge, std_slen, std_sget, std_scut, std_ofNat, std_toNat, std_nsub, std_nadd, std_lenOf, std_nz, std_nneg, std_inb, std_upto, std_slt63, std_grow, std_imp, std_impN, std_tr, std_tb, std_ti, std_ts, std_tn, std_tp, std_nmin, std_makes, std_room, std_zeros, std_nilq, std_notq, std_eqi, std_eqn, std_eqb, std_eqs, std_eqv, std_cat, std_lst, std_rset, std_rcopy, std_shift, std_eqr, std_strOf, std_bytesOf, std_isB, std_zOf, zOf_int, std_isI, isI_int, std_getL, std_nmul, std_sOf, sOf_str, std_isS, isS_str] at *)
  all_goals first
    | exact (pu1 hc).1
    | exact (pu1 hc).2.symm
    | trace_state
end Go.Vd

set_option linter.unusedVariables false
set_option linter.unusedSimpArgs false
set_option maxRecDepth 100000
set_option maxHeartbeats 2000000
namespace Go.Vd
open Go.Proofs
theorem good_rPut' (v n : Int) (hv : 0 ≤ v ∧ v < 18446744073709551616) (hn : -9223372036854775808 ≤ n ∧ n < 9223372036854775808) : GoodP Tryz.prog gl0 154 [.int .u64 v, .int .i64 n] (.tup [.str (std.ts fun _ => puS v n), .int .i64 (std.ti fun _ => puE v n)]) := by
  obtain ⟨V, rfl⟩ : ∃ V : Nat, v = V := ⟨v.toNat, by omega⟩
  exact good_rPut V n (by omega) hn
noncomputable def c_gPut : Ct := fun A args => match args with
  | [.int .u64 v, .int .i64 n] => some (some (A.tp fun _ => (0 ≤ v ∧ v < 18446744073709551616) ∧ (-9223372036854775808 ≤ n ∧ n < 9223372036854775808)), .tup [.str (A.ts fun _ => puS v n), .int .i64 (A.ti fun _ => puE v n)])
  | _ => none
noncomputable def c_rPut : Ct := fun A args => match args with
  | [.int .u64 v, .int .i64 n] => some (some (A.tp fun _ => (0 ≤ v ∧ v < 18446744073709551616) ∧ (-9223372036854775808 ≤ n ∧ n < 9223372036854775808)), .tup [.str (A.ts fun _ => puS v n), .int .i64 (A.ti fun _ => puE v n)])
  | _ => none
noncomputable def c_gGet : Ct := fun A args => match args with
  | [.str L] => some (none, .tup [.int .u64 (A.ti fun _ => (gVal L : Int)), .int .i64 (A.ti fun _ => gErr L)])
  | _ => none
noncomputable def c_rGet : Ct := fun A args => match args with
  | [.str L] => some (none, .tup [.int .u64 (A.ti fun _ => (gVal L : Int)), .int .i64 (A.ti fun _ => gErr L)])
  | _ => none
noncomputable def gg4 : Ar → Pu := addC 109 c_gPut (addC 154 c_rPut (addC 136 c_gGet (addC 100 c_rGet (gg3))))
theorem gg4_ok : PuOk Tryz.prog gl0 (gg4 std) := by
  refine addC_ok (addC_ok (addC_ok (addC_ok (gg3_ok) ⟨_, Tryz.func100, rfl, by decide⟩ ?_) ⟨_, Tryz.func136, rfl, by decide⟩ ?_) ⟨_, Tryz.func154, rfl, by decide⟩ ?_) ⟨_, Tryz.func109, rfl, by decide⟩ ?_
  · intro args p r h hp
    unfold c_rGet at h
    split at h <;> cases h
    exact good_rGet _
  · intro args p r h hp
    unfold c_gGet at h
    split at h <;> cases h
    exact good_gGet _
  · intro args p r h hp
    unfold c_rPut at h
    split at h <;> cases h
    exact good_rPut' _ _ hp.1 hp.2
  · intro args p r h hp
    unfold c_gPut at h
    split at h <;> cases h
    exact good_gPut _ _ hp.1 hp.2
theorem aw1 : puS 42 5 = [48, 48, 48, 52, 50] ∧ puE 42 5 = 0 ∧ puE 100 2 = 10 := by decide +kernel
theorem aw2 : (gVal [48, 48, 48, 52, 50] : Int) = 42 ∧ gErr [48, 48, 48, 52, 50] = 0 := by decide +kernel
theorem aw3 : chS [55, 57, 57, 50, 55, 51, 57, 56, 55, 49] = [51] ∧ chE [55, 57, 57, 50, 55, 51, 57, 56, 55, 49] = 0 := by decide +kernel
theorem aw4 : lFine [55, 57, 57, 50, 55, 51, 57, 56, 55, 49, 51] = true ∧ lFine [55, 57, 57, 50, 55, 51, 57, 56, 55, 49, 50] = false ∧ isD [48] = true := by decide +kernel
noncomputable def gg5 : Ar → Pu := gg4
theorem gg5_ok : PuOk Tryz.prog gl0 (gg5 std) := by
  refine gg4_ok
end Go.Vd

set_option linter.unusedVariables false
set_option linter.unusedSimpArgs false
set_option maxRecDepth 100000
set_option maxHeartbeats 4000000
namespace Go.Vd
open Go.Proofs
theorem gD {L : List UInt8} {i : Nat} : L[i]?.getD 0 = L.getD i 0 := (List.getD_eq_getElem?_getD ..).symm
def FL : List Int := [2, 3, 19, 3, 1, 6, 4, 1, 12, 7, 1, 10, 11, 1, 6, 12, 1, 6, 37, 2, 12, 38, 2, 6, 39, 2, 2, 41, 2, 8, 44, 4, 25, 48, 5, 999, 49, 1, 3, 90, 1, 42, 120, 5, 999]
def dFind : List Int → Int → Option (Int × Int)
  | a :: b :: c :: r, n => if a = n then some (b, c) else dFind r n
  | _, _ => none
def dOk (n : Int) : Bool := (dFind FL n).isSome
def dKd (n : Int) : Int := ((dFind FL n).getD (0, 0)).1
def dSz (n : Int) : Int := ((dFind FL n).getD (0, 0)).2
theorem drop3 {L : List Int} {i : Nat} (h : i + 2 < L.length) : L.drop i = L.getD i 0 :: L.getD (i + 1) 0 :: L.getD (i + 2) 0 :: L.drop (i + 3) := by
  have e : ∀ {j : Nat} (hj : j < L.length), L[j] = L.getD j 0 := fun hj => by rw [List.getD_eq_getElem?_getD, List.getElem?_eq_getElem hj]; rfl
  rw [List.drop_eq_getElem_cons (by omega), List.drop_eq_getElem_cons (by omega), List.drop_eq_getElem_cons h, e, e, e]
theorem FL_len : FL.length = 45 := rfl
theorem all2_map : ∀ L : List Int, All2 (fun c x => ∀ j, j < 1 → Ceq (getAt c j) (getAt (eZ std fun _ => x) j)) (L.map fun z => [SV.int .i64 z]) L
  | [] => trivial
  | x :: l => ⟨cell_eZ x, all2_map l⟩
theorem FL_rep : Reps eZ 0 1 45 (lstS (FL.map fun z => [SV.int .i64 z])) FL := Reps.lst (all2_map FL)
theorem good_rFields  : GoodP Tryz.prog gl0 151 [] (rowS eZ 0 1 std fun _ => FL) := by
  refine fn_sound' (T := seatT) (G := noC) (X := noX) seatT_ok noC_ok noX_ok noI_ok mixed Tryz.func151 (.none) (fun A => []) (fun A => rowS eZ 0 1 A fun _ => FL) fun A hA => ?_
  cbv
  repeat' (first | with_reducible exact True.intro | with_reducible exact dr_ok hA (by kernel_rfl) | with_reducible refine And.intro ?_ ?_ | (intro hc; cbv))
  all_goals (subst hA; simp only [sS])
  · rfl
  · exact FL_rep.eqr
noncomputable def c_rFields : Ct := fun A args => match args with
  | [] => some (none, rowS eZ 0 1 A fun _ => FL)
  | _ => none
noncomputable def gh1 : Ar → Pu := addC 151 c_rFields (gg4)
theorem gh1_ok : PuOk Tryz.prog gl0 (gh1 std) := by
  refine addC_ok (gg4_ok) ⟨_, Tryz.func151, rfl, by decide⟩ ?_
  · intro args p r h hp
    unfold c_rFields at h
    split at h <;> cases h
    exact good_rFields
theorem good_rDef (n : Int) : GoodP Tryz.prog gl0 114 [.int .i64 n] (.tup [.agg [.int .i64 (std.ti fun _ => if dOk n then n else 0), .int .i64 (std.ti fun _ => dKd n), .int .i64 (std.ti fun _ => dSz n)], .bool (std.tb fun _ => dOk n)]) := by
  refine fn_sound' (T := seatT) (G := gh1) (X := noX) seatT_ok gh1_ok noX_ok noI_ok mixed Tryz.func114 (.one) (fun A => [.int .i64 n]) (fun A => .tup [.agg [.int .i64 (A.ti fun _ => if dOk n then n else 0), .int .i64 (A.ti fun _ => dKd n), .int .i64 (A.ti fun _ => dSz n)], .bool (A.tb fun _ => dOk n)]) fun A hA => ?_
  cbv
  repeat' (first | with_reducible exact True.intro | with_reducible exact dr_ok hA (by kernel_rfl) | with_reducible refine And.intro ?_ ?_ | (intro hc; cbv))
  refine ⟨⟨{p : Nat × Nat // p.1 ≤ 15 ∧ p.2 = 3 * p.1 ∧ dFind FL n = dFind (FL.drop p.2) n}, fun b p => [(5, .int .i64 (p.1.2 : Nat))], fun b p => [], fun p => 15 - p.1.1, true⟩, ⟨⟨(0, 0), by omega, rfl, rfl⟩, ?_⟩, ?_⟩
  · cbv
    subst hA
    simp [-List.getD_eq_getElem?_getD, sS]
  · rintro ⟨⟨j, i⟩, hj, hi, hd⟩
    simp only at hj hi hd
    have hL := FL_len
    cbv
    repeat' (first | with_reducible exact True.intro | with_reducible exact dr_ok hA (by kernel_rfl) | with_reducible refine And.intro ?_ ?_ | (intro hc; cbv))
    all_goals first
      | (fail_if_success (refine Exists.intro ?_ ?_)
         subst hA
         simp [-List.getD_eq_getElem?_getD, sS, hL] at *
         first
           | omega
           | (rw [w64 (by omega)]; omega)
           | (constructor <;> (rw [w64 (by omega)]; omega))
           | (have hq : FL.getD i 0 = n := by assumption
              rw [drop3 (by rw [FL_len]; omega)] at hd
              simp only [dFind, if_pos hq] at hd
              have e1 : (IntKind.i64.wrap ((i : Int) + 1)).toNat = i + 1 := by rw [w64 (by omega)]; omega
              have e2 : (IntKind.i64.wrap ((i : Int) + 2)).toNat = i + 2 := by rw [w64 (by omega)]; omega
              simp [-List.getD_eq_getElem?_getD, dOk, dKd, dSz, hd, hq, e1, e2]; done)
           | (have hie : i = 45 := by omega
              rw [hie] at hd
              have hn : dFind (FL.drop 45) n = none := rfl
              rw [hn] at hd
              simp [dOk, dKd, dSz, hd]; done)
           | trace_state)
      | (have hlt : i < 45 := by clear hd; subst hA; simp [sS, hL] at *; omega
         have h0 : ¬FL.getD i 0 = n := by subst hA; simpa [-List.getD_eq_getElem?_getD, sS] using hc
         obtain ⟨i', hi'⟩ : ∃ i', i' = i + 3 := ⟨_, rfl⟩
         rw [drop3 (by rw [hL]; omega)] at hd
         simp only [dFind, if_neg h0] at hd
         refine ⟨⟨(j + 1, i'), by omega, by omega, by rw [hi', hd]⟩, ?_, show 15 - (j + 1) < 15 - j by omega⟩
         cbv
         subst hA
         simp [sS]
         exact (w64 (by omega)).trans (by omega))
      | trace_state
theorem good_rSigns (k : Int) (r : List UInt8) (hr : r.length ≤ 1000000) : GoodP Tryz.prog gl0 115 [.int .i64 k, .str r] (.bool (std.tb fun _ => signs k r)) := by
  refine fn_sound' (T := seatT) (G := gh1) (X := noX) seatT_ok gh1_ok noX_ok noI_ok mixed Tryz.func115 (.one) (fun A => [.int .i64 k, .str r]) (fun A => .bool (A.tb fun _ => signs k r)) fun A hA => ?_
  cbv
  repeat' (first | with_reducible exact True.intro | with_reducible exact dr_ok hA (by kernel_rfl) | with_reducible refine And.intro ?_ ?_ | (intro hc; cbv))
  refine ⟨⟨{i : Nat // i ≤ r.length ∧ (r.take i).all (inS k) = true}, fun b i => [(5, .int .i64 (i.1 : Nat))], fun b i => [], fun i => r.length - i.1, true⟩, ⟨⟨0, by omega, by simp⟩, ?_⟩, ?_⟩
  · cbv
    subst hA
    simp [-List.getD_eq_getElem?_getD, sS]
  · rintro ⟨i, hi, hz⟩
    cbv
    repeat' (first | with_reducible exact True.intro | with_reducible exact dr_ok hA (by kernel_rfl) | with_reducible refine And.intro ?_ ?_ | (intro hc; cbv))
    all_goals first
      | (fail_if_success (refine Exists.intro ?_ ?_)
         subst hA
         simp [-List.getD_eq_getElem?_getD, sS, gD] at *
         done)
      | (fail_if_success (refine Exists.intro ?_ ?_)
         subst hA
         simp [-List.getD_eq_getElem?_getD, sS, gD] at *
         first
           | omega
           | (constructor <;> omega)
           | (intros; (first | omega | (refine ⟨by omega, ?_⟩; omega)))
           | (have hlt : i < r.length := by omega
              have hx : inS k (r.getD i 0) = false := by (unfold inS; split <;> simp [-List.getD_eq_getElem?_getD, isDb, okB] <;> omega)
              rw [signs, all_false hlt hx]; done)
           | (have hie : i = r.length := by omega
              subst hie
              rw [signs, List.all_eq_true]; simpa using hz)
           | trace_state)
      | (have hlt : i < r.length := by clear hz; subst hA; simp [sS] at *; omega
         have hx : inS k (r.getD i 0) = true := by
           clear hz
           subst hA
           simp [-List.getD_eq_getElem?_getD, sS, gD] at *
           unfold inS
           split <;> simp [-List.getD_eq_getElem?_getD, isDb, okB] <;> omega
         refine ⟨⟨i + 1, by omega, by rw [all_take hlt, hz, hx]; rfl⟩, ?_, show r.length - (i + 1) < r.length - i by omega⟩
         cbv
         subst hA
         simp [sS]
         exact w64 (by omega))
      | trace_state

theorem lt15 {i : Nat} (h : i < 15) : i = 0 ∨ i = 1 ∨ i = 2 ∨ i = 3 ∨ i = 4 ∨ i = 5 ∨ i = 6 ∨ i = 7 ∨ i = 8 ∨ i = 9 ∨ i = 10 ∨ i = 11 ∨ i = 12 ∨ i = 13 ∨ i = 14 := by omega
theorem good_gDef (n : Int) : GoodP Tryz.prog gl0 107 [.int .i64 n] (.tup [.agg [.int .i64 (std.ti fun _ => if dOk n then n else 0), .int .i64 (std.ti fun _ => dKd n), .int .i64 (std.ti fun _ => dSz n)], .bool (std.tb fun _ => dOk n)]) := by
  refine fn_sound' (T := seatT) (G := noC) (X := noX) seatT_ok noC_ok noX_ok noI_ok mixed Tryz.func107 (.one) (fun A => [.int .i64 n]) (fun A => .tup [.agg [.int .i64 (A.ti fun _ => if dOk n then n else 0), .int .i64 (A.ti fun _ => dKd n), .int .i64 (A.ti fun _ => dSz n)], .bool (A.tb fun _ => dOk n)]) fun A hA => ?_
  cbv
  repeat' (first | with_reducible exact True.intro | with_reducible exact dr_ok hA (by kernel_rfl) | with_reducible refine And.intro ?_ ?_ | (intro hc; cbv))
  refine ⟨⟨{i : Nat // i ≤ 15 ∧ dFind FL n = dFind (FL.drop (3 * i)) n}, fun b i => [(7, .int .i64 (i.1 : Nat))], fun b i => [], fun i => 15 - i.1, true⟩, ⟨⟨0, by omega, rfl⟩, ?_⟩, ?_⟩
  · cbv
    subst hA
    simp [-List.getD_eq_getElem?_getD, sS]
  · rintro ⟨i, hi, hd⟩
    cbv
    repeat' (first | with_reducible exact True.intro | with_reducible exact dr_ok hA (by kernel_rfl) | with_reducible refine And.intro ?_ ?_ | (intro hc; cbv))
    all_goals first
      | (fail_if_success (refine Exists.intro ?_ ?_)
         subst hA
         have hlt : i < 15 := by (clear hd; simp [sS] at *; omega)
         rcases lt15 hlt with h | h | h | h | h | h | h | h | h | h | h | h | h | h | h <;> subst h <;> first
           | (simp [sS, getAt, isI_int]; done)
           | (simp [sS, getAt] at hc ⊢; subst hc; decide)
           | trace_state)
      | (fail_if_success (refine Exists.intro ?_ ?_)
         subst hA
         have hie : i = 15 := by (simp [sS] at *; omega)
         rw [hie, show dFind (FL.drop (3 * 15)) n = none from rfl] at hd
         simp [sS, dOk, dKd, dSz, hd]; done)
      | (have hlt : i < 15 := by (clear hd; subst hA; simp [sS] at *; omega)
         obtain ⟨i', hi'⟩ : ∃ i', i' = i + 1 := ⟨_, rfl⟩
         refine ⟨⟨i', by omega, ?_⟩, ?_, show 15 - i' < 15 - i by omega⟩
         · subst hA hi'
           rw [hd]
           rcases lt15 hlt with h | h | h | h | h | h | h | h | h | h | h | h | h | h | h <;> subst h <;> simp [sS, getAt] at hc <;> simp [FL, dFind, hc]
         · cbv
           subst hA
           simp [sS]
           exact (w64 (by omega)).trans (by omega))
      | trace_state
end Go.Vd

set_option linter.unusedVariables false
set_option linter.unusedSimpArgs false
namespace Go.Proofs
open Go.RowKit
theorem ba_byte {s : ByteArray} {i : Nat} (h : i < s.size) : s[i]'h = s.data.toList.getD i 0 := by
  rw [List.getD_eq_getElem?_getD, List.getElem?_eq_getElem (by simpa using h)]
  simp
  rfl
set_option maxRecDepth 100000 in
set_option maxHeartbeats 2000000 in
theorem isText_walk (s : ByteArray) (w : World) :
    Calls Tryz.prog 145 #[.string s] w fun e w' => e = .returned (.bool (s.data.toList.all Vd.okB)) ∧ ∃ pos, w' = w.iter s pos := by
  have hsz : s.data.toList.length = s.size := by simp
  go_enter Tryz.func145, Tryz.ntmps145
  go_wp2
  go_loopw [4] (fun _ w' => ∃ pos : Nat, w' = w.iter s pos ∧ pos ≤ s.size ∧ (s.data.toList.take pos).all Vd.okB = true) (fun _ w' => s.size - w'.iterPos w.heap.size)
  case atStart => exact ⟨0, rfl, by omega, by simp⟩
  case round =>
    obtain ⟨pos, rfl, hle, hall⟩ := hrel
    by_cases hp : pos < s.size
    · by_cases ha : (s[pos]'hp).toNat < 128
      · have hp' : pos < s.data.size := hp
        have hnx : ∀ ty, (Instr.next (.pointer (some ⟨w.heap.size, 0, none⟩)) true ty).run Tryz.prog (w.iter s pos) = .ok (.tuple #[.bool true, .int .i64 pos, .int .i32 ((s.data[pos]'hp').toNat : Int)]) (w.iter s (pos + 1)) := fun ty => run_next_ascii w s pos ty hp ha
        have hb : s.data[pos]'hp' = s.data.toList.getD pos 0 := ba_byte hp
        have hok : Vd.okB (s.data[pos]'hp') = true ↔ 32 ≤ (s.data[pos]'hp').toNat ∧ (s.data[pos]'hp').toNat ≤ 126 := by simp [Vd.okB]
        have hno : Vd.okB (s.data[pos]'hp') = false → s.data.toList.all Vd.okB = false := fun h => Vd.all_false (i := pos) (by omega) (by rw [← hb]; exact h)
        by_cases h1 : (((s.data[pos]'hp').toNat : Nat) : Int) < 32
        · have hf := hno (by cases h : Vd.okB (s.data[pos]'hp'); rfl; have := hok.1 h; omega)
          clear hok hno hb
          go_wp2
          go_ret
          exact ⟨by first | rfl | (rw [hf]; rfl), _, rfl⟩
        · by_cases h2 : (126 : Int) < (((s.data[pos]'hp').toNat : Nat) : Int)
          · have hf := hno (by cases h : Vd.okB (s.data[pos]'hp'); rfl; have := hok.1 h; omega)
            clear hok hno hb
            go_wp2
            go_ret
            exact ⟨by first | rfl | (rw [hf]; rfl), _, rfl⟩
          · have hy : (s.data.toList.take (pos + 1)).all Vd.okB = true := by
              rw [Vd.all_take (by omega), hall, ← hb, hok.2 (by omega)]
              rfl
            clear hok hno hb
            go_wp2
            go_roundw
            case rel => exact ⟨pos + 1, rfl, by omega, hy⟩
            case measure =>
              simp
              omega
      · have hd := decode_high s pos hp (by omega)
        have hnx : ∀ ty, (Instr.next (.pointer (some ⟨w.heap.size, 0, none⟩)) true ty).run Tryz.prog (w.iter s pos) = _ := fun ty => run_next_any w s pos ty hp
        have hb := ba_byte hp
        have hno : s.data.toList.all Vd.okB = false := Vd.all_false (i := pos) (by omega) (by
          rw [← hb]
          simp [Vd.okB]
          omega)
        generalize (Utf8.decode s pos).1 = r at *
        have h1 : ¬ ((r : Nat) : Int) < 32 := by omega
        have h2 : (126 : Int) < ((r : Nat) : Int) := by omega
        go_wp2
        go_ret
        exact ⟨by first | rfl | (rw [hno]; rfl), _, rfl⟩
    · have hnx : ∀ ty, (Instr.next (.pointer (some ⟨w.heap.size, 0, none⟩)) true ty).run Tryz.prog (w.iter s pos) = _ := fun ty => run_next_end w s pos ty hp
      go_wp2
      go_ret
      rw [List.take_of_length_le (by omega)] at hall
      exact ⟨by first | rfl | (rw [hall]; rfl), _, rfl⟩
end Go.Proofs
namespace Go.Vd
open Go.Proofs
theorem good_isText (L : List UInt8) : GoodP Tryz.prog gl0 145 [.str L] (.bool (std.tb fun _ => L.all okB)) := by
  intro w ρ rw N vs hfr hrw hg hargs
  match vs, hargs with
  | [v1], ⟨r1, _⟩ =>
    generalize hs1 : SV.str L = s1 at r1
    cases r1 with
    | str s =>
      cases hs1
      refine (isText_walk s w).mono fun e w' hq => ?_
      obtain ⟨rfl, pos, rfl⟩ := hq
      refine ⟨_, rfl, Ext.alloc _ _, fun key _ => ?_⟩
      exact Rel.bool _
    | _ => cases hs1
end Go.Vd

set_option linter.unusedVariables false
set_option linter.unusedSimpArgs false
set_option maxRecDepth 100000
set_option maxHeartbeats 4000000
namespace Go.Vd
open Go.Proofs
noncomputable def iF : Nat → Option Func := addI 108 Tryz.f108 (addI 201 Tryz.f201 (addI 202 Tryz.f202 (addI 203 Tryz.f203 (addI 204 Tryz.f204 (addI 156 Tryz.f156 noI)))))
theorem iF_ok : InOk Tryz.prog iF := addI_ok (addI_ok (addI_ok (addI_ok (addI_ok (addI_ok noI_ok Tryz.func156 (by kernel_rfl)) Tryz.func204 (by kernel_rfl)) Tryz.func203 (by kernel_rfl)) Tryz.func202 (by kernel_rfl)) Tryz.func201 (by kernel_rfl)) Tryz.func108 (by kernel_rfl)
def xFm : Nat → String → Option Nat
  | 188, "paydesk/field.right" => some 202
  | 188, "paydesk/field.ahead" => some 201
  | 190, "paydesk/field.right" => some 204
  | 190, "paydesk/field.ahead" => some 203
  | _, _ => none
def xF : Ar → Xt := fun _ => { meth := xFm, wt := fun _ _ _ _ _ _ => none }
theorem xF_ok : XtOk Tryz.prog gl0 (xF std) := ⟨fun t name f h => by
  have h : xFm t name = some f := h
  unfold xFm at h
  split at h <;> cases h <;> exact fun v args w => by kernel_rfl, fun f e k n g rest p n2 g2 h => by cases h⟩
def isT (L : List UInt8) : Bool := L.all okB
noncomputable def c_isText : Ct := fun A args => match args with
  | [.str L] => some (none, .bool (A.tb fun _ => isT L))
  | _ => none
noncomputable def c_gDef : Ct := fun A args => match args with
  | [.int .i64 n] => some (none, .tup [.agg [.int .i64 (A.ti fun _ => if dOk n then n else 0), .int .i64 (A.ti fun _ => dKd n), .int .i64 (A.ti fun _ => dSz n)], .bool (A.tb fun _ => dOk n)])
  | _ => none
noncomputable def c_rDef : Ct := fun A args => match args with
  | [.int .i64 n] => some (none, .tup [.agg [.int .i64 (A.ti fun _ => if dOk n then n else 0), .int .i64 (A.ti fun _ => dKd n), .int .i64 (A.ti fun _ => dSz n)], .bool (A.tb fun _ => dOk n)])
  | _ => none
noncomputable def c_rSigns : Ct := fun A args => match args with
  | [.int .i64 k, .str r] => some (some (A.tp fun _ => r.length ≤ 1000000), .bool (A.tb fun _ => signs k r))
  | _ => none
noncomputable def gh2 : Ar → Pu := addC 145 c_isText (addC 107 c_gDef (addC 114 c_rDef (addC 115 c_rSigns (gh1))))
theorem gh2_ok : PuOk Tryz.prog gl0 (gh2 std) := by
  refine addC_ok (addC_ok (addC_ok (addC_ok (gh1_ok) ⟨_, Tryz.func115, rfl, by decide⟩ ?_) ⟨_, Tryz.func114, rfl, by decide⟩ ?_) ⟨_, Tryz.func107, rfl, by decide⟩ ?_) ⟨_, Tryz.func145, rfl, by decide⟩ ?_
  · intro args p r h hp
    unfold c_rSigns at h
    split at h <;> cases h
    exact good_rSigns _ _ hp
  · intro args p r h hp
    unfold c_rDef at h
    split at h <;> cases h
    exact good_rDef _
  · intro args p r h hp
    unfold c_gDef at h
    split at h <;> cases h
    exact good_gDef _
  · intro args p r h hp
    unfold c_isText at h
    split at h <;> cases h
    exact good_isText _
def rr (n : Int) (s : List UInt8) : Bool := if dOk n = true ∧ ¬s = [] ∧ (s.length : Int) ≤ dSz n ∧ (dKd n < 3 → dSz n ≤ s.length) then signs (dKd n) s else false
theorem dFind_mem : ∀ (L : List Int) (n : Int) (p : Int × Int), dFind L n = some p → ∃ j, L.getD (3 * j) 0 = n ∧ L.getD (3 * j + 1) 0 = p.1 ∧ L.getD (3 * j + 2) 0 = p.2 ∧ 3 * j + 2 < L.length
  | a :: b :: c :: r, n, p, h => by
    simp only [dFind] at h
    split at h
    · rename_i he
      cases h
      exact ⟨0, he, rfl, rfl, by simp⟩
    · obtain ⟨j, h1, h2, h3, h4⟩ := dFind_mem r n p h
      refine ⟨j + 1, ?_, ?_, ?_, by simp only [List.length_cons]; omega⟩
      · rw [show 3 * (j + 1) = 3 * j + 1 + 1 + 1 by omega]; simpa using h1
      · rw [show 3 * (j + 1) + 1 = 3 * j + 1 + 1 + 1 + 1 by omega]; simpa using h2
      · rw [show 3 * (j + 1) + 2 = 3 * j + 2 + 1 + 1 + 1 by omega]; simpa using h3
  | [], _, _, h => by cases h
  | [_], _, _, h => by cases h
  | [_, _], _, _, h => by cases h
/-- Kinds and sizes that are known. -/
theorem dOk_b {n : Int} (h : dOk n = true) : 1 ≤ dKd n ∧ dKd n ≤ 5 ∧ 1 ≤ dSz n ∧ dSz n ≤ 999 ∧ 2 ≤ n ∧ n ≤ 120 ∧ (dKd n < 5 → dSz n ≤ 99) := by
  unfold dOk at h
  obtain ⟨p, hp⟩ := Option.isSome_iff_exists.1 h
  obtain ⟨j, h1, h2, h3, h4⟩ := dFind_mem FL n p hp
  have hk : dKd n = p.1 := by unfold dKd; rw [hp]; rfl
  have hs : dSz n = p.2 := by unfold dSz; rw [hp]; rfl
  rw [hk, hs, ← h2, ← h3, ← h1]
  have hj : j < 15 := by rw [FL_len] at h4; omega
  rcases lt15 hj with h | h | h | h | h | h | h | h | h | h | h | h | h | h | h <;> subst h <;> decide
theorem dOk_no {n : Int} (h : dOk n = false) : dKd n = 0 ∧ dSz n = 0 := by
  unfold dOk at h
  cases hf : dFind FL n with
  | none => unfold dKd dSz; rw [hf]; exact ⟨rfl, rfl⟩
  | some p => rw [hf] at h; cases h
theorem isD_ne {s : List UInt8} (h : ¬s = []) : isD s = s.all isDb := by
  unfold isD
  cases s with
  | nil => exact absurd rfl h
  | cons b s => rfl
theorem signsD {k : Int} (h : k = 1 ∨ k = 3) (s : List UInt8) : signs k s = s.all isDb := by
  unfold signs
  have : inS k = isDb := by funext b; unfold inS; rw [if_pos h]
  rw [this]
theorem signsT {k : Int} (h : ¬(k = 1 ∨ k = 3)) (s : List UInt8) : signs k s = s.all okB := by
  unfold signs
  have : inS k = okB := by funext b; unfold inS; rw [if_neg h]
  rw [this]
theorem len_ne {s : List UInt8} {z : Int} (hz : 1 ≤ z) (h : (s.length : Int) = z) : ¬s = [] := fun e => by rw [e] at h; simp at h; omega
theorem rr_fix {n : Int} {s : List UInt8} (h : dOk n = true) (hk : dKd n < 3) : rr n s = (decide ((s.length : Int) = dSz n) && signs (dKd n) s) := by
  have hb := dOk_b h
  unfold rr
  by_cases hl : (s.length : Int) = dSz n
  · rw [if_pos ⟨h, len_ne hb.2.2.1 hl, by omega, fun _ => by omega⟩]; simp [hl]
  · rw [if_neg (fun e => hl (by have := e.2.2.2 hk; have := e.2.2.1; omega))]; simp [hl]
theorem rr_long {n : Int} {s : List UInt8} (h : dOk n = true) (hk : ¬dKd n < 3) : rr n s = ((decide (1 ≤ (s.length : Int)) && decide ((s.length : Int) ≤ dSz n)) && signs (dKd n) s) := by
  unfold rr
  by_cases hl : 1 ≤ (s.length : Int) ∧ (s.length : Int) ≤ dSz n
  · rw [if_pos ⟨h, fun e => by rw [e] at hl; simp at hl, hl.2, fun hc => absurd hc hk⟩]; simp [hl]
  · rw [if_neg (fun e => hl ⟨by have := List.length_pos_iff.2 e.2.1; omega, e.2.2.1⟩)]
    by_cases h1 : 1 ≤ (s.length : Int)
    · have h2 : ¬(s.length : Int) ≤ dSz n := fun e => hl ⟨h1, e⟩
      simp [h2]
    · simp [h1]
theorem rr_no {n : Int} {s : List UInt8} (h : dOk n = false) : rr n s = false := by
  unfold rr
  rw [h, if_neg (fun e => by cases e.1)]
theorem rr_1 {n : Int} {s : List UInt8} (h : dOk n = true) (hk : dKd n = 1) (hl : (s.length : Int) = dSz n) : isD s = rr n s := by
  rw [rr_fix h (by omega), signsD (.inl hk), isD_ne (len_ne (dOk_b h).2.2.1 hl)]; simp [hl]
theorem rr_2 {n : Int} {s : List UInt8} (h : dOk n = true) (hk : dKd n = 2) (hl : (s.length : Int) = dSz n) : isT s = rr n s := by
  unfold isT
  rw [rr_fix h (by omega), signsT (by omega)]; simp [hl]
theorem rr_f {n : Int} {s : List UInt8} (h : dOk n = true) (hk : dKd n < 3) (hl : ¬(s.length : Int) = dSz n) : rr n s = false := by
  rw [rr_fix h hk]; simp [hl]
theorem rr_3 {n : Int} {s : List UInt8} (h : dOk n = true) (hk : dKd n = 3) (hl : 1 ≤ (s.length : Int) ∧ (s.length : Int) ≤ dSz n) : isD s = rr n s := by
  rw [rr_long h (by omega), signsD (.inr hk), isD_ne (fun e => by rw [e] at hl; simp at hl)]; simp [hl]
theorem rr_4 {n : Int} {s : List UInt8} (h : dOk n = true) (hk : 3 < dKd n) (hl : 1 ≤ (s.length : Int) ∧ (s.length : Int) ≤ dSz n) : isT s = rr n s := by
  unfold isT
  rw [rr_long h (by omega), signsT (by omega)]; simp [hl]
theorem rr_l {n : Int} {s : List UInt8} (h : dOk n = true) (hk : 3 ≤ dKd n) (hl : 1 ≤ (s.length : Int) → dSz n < (s.length : Int)) : rr n s = false := by
  rw [rr_long h (by omega)]
  by_cases h1 : 1 ≤ (s.length : Int)
  · have := hl h1
    have h2 : ¬(s.length : Int) ≤ dSz n := by omega
    simp [h2]
  · simp [h1]
theorem rr_of1 {n : Int} {s : List UInt8} (h : dOk n = true) (hk : dKd n = 1) : rr n s = true ↔ (s.length : Int) = dSz n ∧ isD s = true := by
  by_cases hl : (s.length : Int) = dSz n
  · rw [← rr_1 h hk hl]; simp [hl]
  · rw [rr_f h (by omega) hl]; simp [hl]
theorem rr_of2 {n : Int} {s : List UInt8} (h : dOk n = true) (hk : dKd n = 2) : rr n s = true ↔ (s.length : Int) = dSz n ∧ isT s = true := by
  by_cases hl : (s.length : Int) = dSz n
  · rw [← rr_2 h hk hl]; simp [hl]
  · rw [rr_f h (by omega) hl]; simp [hl]
theorem rr_of3 {n : Int} {s : List UInt8} (h : dOk n = true) (hk : dKd n = 3) : rr n s = true ↔ (1 ≤ (s.length : Int) ∧ (s.length : Int) ≤ dSz n) ∧ isD s = true := by
  by_cases hl : 1 ≤ (s.length : Int) ∧ (s.length : Int) ≤ dSz n
  · rw [← rr_3 h hk hl]; exact ⟨fun h => ⟨hl, h⟩, fun h => h.2⟩
  · rw [rr_l h (by omega) (fun h1 => by omega)]; exact ⟨fun h => (by cases h), fun h => absurd h.1 hl⟩
theorem rr_of4 {n : Int} {s : List UInt8} (h : dOk n = true) (hk : 3 < dKd n) : rr n s = true ↔ (1 ≤ (s.length : Int) ∧ (s.length : Int) ≤ dSz n) ∧ isT s = true := by
  by_cases hl : 1 ≤ (s.length : Int) ∧ (s.length : Int) ≤ dSz n
  · rw [← rr_4 h hk hl]; exact ⟨fun h => ⟨hl, h⟩, fun h => h.2⟩
  · rw [rr_l h (by omega) (fun h1 => by omega)]; exact ⟨fun h => (by cases h), fun h => absurd h.1 hl⟩
theorem rr_f1 {n : Int} {s : List UInt8} (h : dOk n = true) (hk : dKd n = 1) (hc : ¬(s.length : Int) = dSz n ∨ isD s = false) : rr n s = false := by
  cases hr : rr n s
  · rfl
  · have := (rr_of1 h hk).1 hr
    rcases hc with hc | hc
    · exact absurd this.1 hc
    · rw [hc] at this; cases this.2
theorem rr_f2 {n : Int} {s : List UInt8} (h : dOk n = true) (hk : dKd n = 2) (hc : ¬(s.length : Int) = dSz n ∨ isT s = false) : rr n s = false := by
  cases hr : rr n s
  · rfl
  · have := (rr_of2 h hk).1 hr
    rcases hc with hc | hc
    · exact absurd this.1 hc
    · rw [hc] at this; cases this.2
theorem rr_f3 {n : Int} {s : List UInt8} (h : dOk n = true) (hk : dKd n = 3) (hc : ((s.length : Int) < 1 ∨ dSz n < (s.length : Int)) ∨ isD s = false) : rr n s = false := by
  cases hr : rr n s
  · rfl
  · have := (rr_of3 h hk).1 hr
    rcases hc with hc | hc
    · omega
    · rw [hc] at this; cases this.2
theorem rr_f4 {n : Int} {s : List UInt8} (h : dOk n = true) (hk : 3 < dKd n) (hc : ((s.length : Int) < 1 ∨ dSz n < (s.length : Int)) ∨ isT s = false) : rr n s = false := by
  cases hr : rr n s
  · rfl
  · have := (rr_of4 h hk).1 hr
    rcases hc with hc | hc
    · omega
    · rw [hc] at this; cases this.2
theorem good_gRight (n : Int) (L : List UInt8) (hL : L.length ≤ 1000000) : GoodP Tryz.prog gl0 106 [.int .i64 n, .str L] (.bool (std.tb fun _ => rr n L)) := by
  refine fn_sound' (T := seatT) (G := gh2) (X := xF) seatT_ok gh2_ok xF_ok iF_ok mixed Tryz.func106 (.one) (fun A => [.int .i64 n, .str L]) (fun A => .bool (A.tb fun _ => rr n L)) fun A hA => ?_
  cbv
  repeat' (first | with_reducible exact True.intro | with_reducible exact dr_ok hA (by kernel_rfl) | with_reducible refine And.intro ?_ ?_ | (intro hc; cbv))
  all_goals (subst hA; simp [std_add, std_sub, std_mul, std_quo, std_rem, std_band, std_bor, std_bxor, std_shl, std_shr, std_eq, std_ne, std_lt, std_le, std_conv, std_not, std_beq, std_bne, std_ite, std_want, std_and2, std_sadd, std_seq, std_sne, std_slt, std_sle, std_sgt, std_sge, std_slen, std_sget, std_scut, std_ofNat, std_toNat, std_nsub, std_nadd, std_lenOf, std_nz, std_nneg, std_inb, std_upto, std_slt63, std_grow, std_imp, std_impN, std_tr, std_tb, std_ti, std_ts, std_tn, std_tp, std_nmin, std_makes, std_room, std_zeros, std_nilq, std_notq, std_eqi, std_eqn, std_eqb, std_eqs, std_eqv, std_cat, std_lst, std_rset, std_rcopy, std_shift, std_eqr, std_strOf, std_bytesOf, std_isB, std_zOf, zOf_int, std_isI, isI_int, std_getL, std_nmul, std_sOf, sOf_str, std_isS, isS_str] at *)
  all_goals first
    | assumption
    | omega
    | exact rr_no (by assumption)
    | (exfalso; simp_all; done)
    | (have h : dOk n = true := by assumption
       have hb := dOk_b h
       first
         | exact rr_f h (by omega) (by assumption)
         | exact rr_l h (by omega) (by assumption)
         | (rw [← rr_1 h (by omega) (by assumption)]; simp [*]; done)
         | (rw [← rr_2 h (by omega) (by assumption)]; simp [*]; done)
         | (rw [← rr_3 h (by omega) (by assumption)]; simp [*]; done)
         | (rw [← rr_4 h (by omega) (by assumption)]; simp [*]; done))
    | trace_state
end Go.Vd

set_option linter.unusedVariables false
set_option linter.unusedSimpArgs false
set_option maxRecDepth 100000
set_option maxHeartbeats 4000000
namespace Go.Vd
open Go.Proofs
def fAh (k : Int) : Nat := if k < 3 then 0 else if k = 5 then 3 else 2
def fWr (n : Int) (L : List UInt8) : List UInt8 := if rr n L = true then (if dKd n < 3 then L else decs (fAh (dKd n)) L.length ++ L) else []
def fWe (n : Int) (L : List UInt8) : Int := if dOk n = false then 5 else if rr n L = true then 0 else 1
theorem rr_ok {n : Int} {L : List UInt8} (h : rr n L = true) : dOk n = true ∧ ¬L = [] ∧ (L.length : Int) ≤ dSz n ∧ (dKd n < 3 → dSz n ≤ L.length) ∧ signs (dKd n) L = true := by
  unfold rr at h
  split at h
  · rename_i hc
    exact ⟨hc.1, hc.2.1, hc.2.2.1, hc.2.2.2, h⟩
  · cases h
theorem we_no {n : Int} {L : List UInt8} (h : dOk n = false) : fWe n L = 5 ∧ fWr n L = [] := by
  unfold fWe fWr; rw [if_pos h, rr_no h]; exact ⟨rfl, rfl⟩
theorem we_bad {n : Int} {L : List UInt8} (h : dOk n = true) (hr : rr n L = false) : fWe n L = 1 ∧ fWr n L = [] := by
  simp [fWe, fWr, h, hr]
theorem we_fix {n : Int} {L : List UInt8} (hr : rr n L = true) (hk : dKd n < 3) : fWe n L = 0 ∧ fWr n L = L := by
  simp [fWe, fWr, (rr_ok hr).1, hr, hk]
theorem we_long {n : Int} {L : List UInt8} (hr : rr n L = true) (hk : 3 ≤ dKd n) : fWe n L = 0 ∧ fWr n L = decs (fAh (dKd n)) L.length ++ L := by
  simp [fWe, fWr, (rr_ok hr).1, hr, show ¬dKd n < 3 by omega]
theorem pu_len {n : Int} {L : List UInt8} (hr : rr n L = true) (hk : 3 ≤ dKd n) : puE (L.length : Int) (fAh (dKd n) : Int) = 0 ∧ puS (L.length : Int) (fAh (dKd n) : Int) = decs (fAh (dKd n)) L.length := by
  obtain ⟨h1, h2, h3, h4, h5⟩ := rr_ok hr
  have hb := dOk_b h1
  have ha : fAh (dKd n) = if dKd n = 5 then 3 else 2 := by unfold fAh; rw [if_neg (by omega)]
  have h6 := pu3 (v := (L.length : Int)) (n := (fAh (dKd n) : Int)) (by rw [ha]; split <;> omega) (by
    rw [Int.toNat_natCast, Int.toNat_natCast, ha]
    split
    · have := hb.2.2.2.1; omega
    · have := hb.2.2.2.2.2.2 (by omega); omega)
  rw [Int.toNat_natCast, Int.toNat_natCast] at h6
  exact ⟨h6.2, h6.1⟩
theorem we_2 {n : Int} {L : List UInt8} (hr : rr n L = true) (hk : dKd n = 3 ∨ dKd n = 4) : puE (IntKind.u64.wrap (L.length : Int)) 2 = 0 ∧ puS (IntKind.u64.wrap (L.length : Int)) 2 = decs 2 L.length ∧ fWr n L = decs 2 L.length ++ L ∧ fWe n L = 0 ∧ IntKind.u64.wrap (L.length : Int) = (L.length : Int) := by
  have h1 := rr_ok hr
  have hb := dOk_b h1.1
  have hw := we_long hr (by omega)
  have hp := pu_len hr (by omega)
  have ha : fAh (dKd n) = 2 := by unfold fAh; rw [if_neg (by omega), if_neg (by omega)]
  have hu : IntKind.u64.wrap (L.length : Int) = (L.length : Int) := wU64' (by omega)
  rw [ha] at hw hp
  rw [hu]
  exact ⟨hp.1, hp.2, hw.2, hw.1, rfl⟩
theorem we_3 {n : Int} {L : List UInt8} (hr : rr n L = true) (hk : dKd n = 5) : puE (IntKind.u64.wrap (L.length : Int)) 3 = 0 ∧ puS (IntKind.u64.wrap (L.length : Int)) 3 = decs 3 L.length ∧ fWr n L = decs 3 L.length ++ L ∧ fWe n L = 0 ∧ IntKind.u64.wrap (L.length : Int) = (L.length : Int) := by
  have h1 := rr_ok hr
  have hb := dOk_b h1.1
  have hw := we_long hr (by omega)
  have hp := pu_len hr (by omega)
  have ha : fAh (dKd n) = 3 := by unfold fAh; rw [if_neg (by omega), if_pos hk]
  have hu : IntKind.u64.wrap (L.length : Int) = (L.length : Int) := wU64' (by omega)
  rw [ha] at hw hp
  rw [hu]
  exact ⟨hp.1, hp.2, hw.2, hw.1, rfl⟩
theorem puS_len (v n : Int) : (puS v n).length ≤ 19 := by
  unfold puS
  split
  · simp
  · split
    · simp
    · rw [decs_len]; omega
theorem row_bytes (L : List UInt8) : Reps eB 0 1 L.length (bytesOfS L) L := Reps.bytesOf L _ fun i => rfl
noncomputable def c_gRight : Ct := fun A args => match args with
  | [.int .i64 n, .str r] => some (some (A.tp fun _ => r.length ≤ 1000000), .bool (A.tb fun _ => rr n r))
  | _ => none
noncomputable def gh3 : Ar → Pu := addC 106 c_gRight (gh2)
theorem gh3_ok : PuOk Tryz.prog gl0 (gh3 std) := by
  refine addC_ok (gh2_ok) ⟨_, Tryz.func106, rfl, by decide⟩ ?_
  · intro args p r h hp
    unfold c_gRight at h
    split at h <;> cases h
    exact good_gRight _ _ hp
theorem good_gWrite (n : Int) (L : List UInt8) (hL : L.length ≤ 1000000) : GoodP Tryz.prog gl0 56 [.int .i64 n, .str L] (.tup [rowS eB 0 1 std fun _ => fWr n L, .int .i64 (std.ti fun _ => fWe n L)]) := by
  refine fn_sound' (T := seatT) (G := gh3) (X := xF) seatT_ok gh3_ok xF_ok iF_ok mixed Tryz.func56 (.none) (fun A => [.int .i64 n, .str L]) (fun A => .tup [rowS eB 0 1 A fun _ => fWr n L, .int .i64 (A.ti fun _ => fWe n L)]) fun A hA => ?_
  cbv
  repeat' (first | with_reducible exact True.intro | with_reducible exact dr_ok hA (by kernel_rfl) | with_reducible refine And.intro ?_ ?_ | (intro hc; cbv))
  all_goals (subst hA; simp [std_add, std_sub, std_mul, std_quo, std_rem, std_band, std_bor, std_bxor, std_shl, std_shr, std_eq, std_ne, std_lt, std_le, std_conv, std_not, std_beq, std_bne, std_ite, std_want, std_and2, std_sadd, std_seq, std_sne, std_slt, std_sle, std_sgt, std_sge, std_slen, std_sget, std_scut, std_ofNat, std_toNat, std_nsub, std_nadd, std_lenOf, std_nz, std_nneg, std_inb, std_upto, std_slt63, std_grow, std_imp, std_impN, std_tr, std_tb, std_ti, std_ts, std_tn, std_tp, std_nmin, std_makes, std_room, std_zeros, std_nilq, std_notq, std_eqi, std_eqn, std_eqb, std_eqs, std_eqv, std_cat, std_lst, std_rset, std_rcopy, std_shift, std_eqr, std_strOf, std_bytesOf, std_isB, std_zOf, zOf_int, std_isI, isI_int, std_getL, std_nmul, std_sOf, sOf_str, std_isS, isS_str] at *)
  all_goals first
    | assumption
    | omega
    | (have h : dOk n = false := by assumption
       first
         | exact (we_no h).1.symm
         | (rw [(we_no h).2]; rfl))
    | (have h : dOk n = true := by assumption
       have hb := dOk_b h
       have hr : rr n L = false := by first | exact rr_f h (by omega) (by assumption) | exact rr_l h (by omega) (by assumption) | exact rr_f1 h (by omega) (by assumption) | exact rr_f2 h (by omega) (by assumption) | exact rr_f3 h (by omega) (by assumption) | exact rr_f4 h (by omega) (by assumption)
       first
         | exact (we_bad h hr).1.symm
         | (rw [(we_bad h hr).2]; rfl))
    | (have h : dOk n = true := by assumption
       have hb := dOk_b h
       have hr : rr n L = true := by first | exact (rr_of1 h (by omega)).2 (by assumption) | exact (rr_of2 h (by omega)).2 (by assumption) | exact (rr_of3 h (by omega)).2 (by assumption) | exact (rr_of4 h (by omega)).2 (by assumption)
       have hsz := (rr_ok hr).2.2.1
       first
         | (have hw := we_fix hr (by omega)
            first
              | exact hw.1.symm
              | (rw [hw.2]; done)
              | (rw [hw.2]; exact (row_bytes L).eqr))
         | (have hq := we_2 hr (by omega)
            first
              | exact hq.2.2.2.1.symm
              | exact absurd hq.1 (by assumption)
              | (rw [hq.2.1, hq.2.2.1, List.length_append]; done)
              | (rw [hq.2.1, hq.2.2.1]; exact (row_bytes _).eqr' (by simp))
              | (rw [hq.2.1, decs_len]; omega)
              | (rw [hq.2.2.2.2]; constructor <;> omega))
         | (have hq := we_3 hr (by omega)
            first
              | exact hq.2.2.2.1.symm
              | exact absurd hq.1 (by assumption)
              | (rw [hq.2.1, hq.2.2.1, List.length_append]; done)
              | (rw [hq.2.1, hq.2.2.1]; exact (row_bytes _).eqr' (by simp))
              | (rw [hq.2.1, decs_len]; omega)
              | (rw [hq.2.2.2.2]; constructor <;> omega)))
    | trace_state
end Go.Vd

set_option linter.unusedVariables false
set_option linter.unusedSimpArgs false
set_option maxRecDepth 100000
set_option maxHeartbeats 4000000
namespace Go.Vd
open Go.Proofs
theorem good_rRight (n : Int) (s : List UInt8) (hs : s.length ≤ 1000000) : GoodP Tryz.prog gl0 65 [.int .i64 n, .str s] (.bool (std.tb fun _ => rr n s)) := by
  refine fn_sound' (T := seatT) (G := gh3) (X := noX) seatT_ok gh3_ok noX_ok noI_ok mixed Tryz.func65 (.one) (fun A => [.int .i64 n, .str s]) (fun A => .bool (A.tb fun _ => rr n s)) fun A hA => ?_
  cbv
  repeat' (first | with_reducible exact True.intro | with_reducible exact dr_ok hA (by kernel_rfl) | with_reducible refine And.intro ?_ ?_ | (intro hc; cbv))
  all_goals (subst hA; simp [std_add, std_sub, std_mul, std_quo, std_rem, std_band, std_bor, std_bxor, std_shl, std_shr, std_eq, std_ne, std_lt, std_le, std_conv, std_not, std_beq, std_bne, std_ite, std_want, std_and2, std_sadd, std_seq, std_sne, std_slt, std_sle, std_sgt, std_sge, std_slen, std_sget, std_scut, std_ofNat, std_toNat, std_nsub, std_nadd, std_lenOf, std_nz, std_nneg, std_inb, std_upto, std_slt63, std_grow, std_imp, std_impN, std_tr, std_tb, std_ti, std_ts, std_tn, std_tp, std_nmin, std_makes, std_room, std_zeros, std_nilq, std_notq, std_eqi, std_eqn, std_eqb, std_eqs, std_eqv, std_cat, std_lst, std_rset, std_rcopy, std_shift, std_eqr, std_strOf, std_bytesOf, std_isB, std_zOf, zOf_int, std_isI, isI_int, std_getL, std_nmul, std_sOf, sOf_str, std_isS, isS_str] at *)
  all_goals first
    | omega
    | exact hs
    | exact fun h1 h2 h3 => ⟨⟨⟨h1, h2⟩, h3⟩, fun h => ⟨⟨⟨h1, h2⟩, h3⟩, h⟩⟩
    | (rw [rr, if_pos ⟨hc.1.1.1, hc.1.1.2, hc.1.2, hc.2⟩]; done)
    | (rw [rr, if_neg (fun h => by rcases hc with ((hc | hc) | hc) | hc; (rw [hc] at h; exact Bool.noConfusion h.1); (exact h.2.1 hc); (have := h.2.2.1; omega); (have := h.2.2.2 hc.1; omega))]; done)
    | trace_state
theorem good_rAhead (k : Int) : GoodP Tryz.prog gl0 143 [.int .i64 k] (.int .i64 (std.ti fun _ => (fAh k : Int))) := by
  refine fn_sound' (T := seatT) (G := noC) (X := noX) seatT_ok noC_ok noX_ok noI_ok mixed Tryz.func143 (.one) (fun A => [.int .i64 k]) (fun A => .int .i64 (A.ti fun _ => (fAh k : Int))) fun A hA => ?_
  cbv
  repeat' (first | with_reducible exact True.intro | with_reducible exact dr_ok hA (by kernel_rfl) | with_reducible refine And.intro ?_ ?_ | (intro hc; cbv))
  all_goals (subst hA; simp [std_add, std_sub, std_mul, std_quo, std_rem, std_band, std_bor, std_bxor, std_shl, std_shr, std_eq, std_ne, std_lt, std_le, std_conv, std_not, std_beq, std_bne, std_ite, std_want, std_and2, std_sadd, std_seq, std_sne, std_slt, std_sle, std_sgt, std_sge, std_slen, std_sget, std_scut, std_ofNat, std_toNat, std_nsub, std_nadd, std_lenOf, std_nz, std_nneg, std_inb, std_upto, std_slt63, std_grow, std_imp, std_impN, std_tr, std_tb, std_ti, std_ts, std_tn, std_tp, std_nmin, std_makes, std_room, std_zeros, std_nilq, std_notq, std_eqi, std_eqn, std_eqb, std_eqs, std_eqv, std_cat, std_lst, std_rset, std_rcopy, std_shift, std_eqr, std_strOf, std_bytesOf, std_isB, std_zOf, zOf_int, std_isI, isI_int, std_getL, std_nmul, std_sOf, sOf_str, std_isS, isS_str] at *)
  all_goals first
    | (unfold fAh; rw [if_pos (by omega)]; rfl)
    | (unfold fAh; rw [if_neg (by omega), if_pos (by omega)]; rfl)
    | (unfold fAh; rw [if_neg (by omega), if_neg (by omega)]; rfl)
    | trace_state
theorem good_rMust (v n : Int) (hv : 0 ≤ v ∧ v < 18446744073709551616) (hn : -9223372036854775808 ≤ n ∧ n < 9223372036854775808) : GoodP Tryz.prog gl0 120 [.int .u64 v, .int .i64 n] (.str (std.ts fun _ => puS v n)) := by
  refine fn_sound' (T := seatT) (G := gh3) (X := noX) seatT_ok gh3_ok noX_ok noI_ok mixed Tryz.func120 (.one) (fun A => [.int .u64 v, .int .i64 n]) (fun A => .str (A.ts fun _ => puS v n)) fun A hA => ?_
  cbv
  repeat' (first | with_reducible exact True.intro | with_reducible exact dr_ok hA (by kernel_rfl) | with_reducible refine And.intro ?_ ?_ | (intro hc; cbv))
  all_goals (subst hA; simp [std_add, std_sub, std_mul, std_quo, std_rem, std_band, std_bor, std_bxor, std_shl, std_shr, std_eq, std_ne, std_lt, std_le, std_conv, std_not, std_beq, std_bne, std_ite, std_want, std_and2, std_sadd, std_seq, std_sne, std_slt, std_sle, std_sgt, std_sge, std_slen, std_sget, std_scut, std_ofNat, std_toNat, std_nsub, std_nadd, std_lenOf, std_nz, std_nneg, std_inb, std_upto, std_slt63, std_grow, std_imp, std_impN, std_tr, std_tb, std_ti, std_ts, std_tn, std_tp, std_nmin, std_makes, std_room, std_zeros, std_nilq, std_notq, std_eqi, std_eqn, std_eqb, std_eqs, std_eqv, std_cat, std_lst, std_rset, std_rcopy, std_shift, std_eqr, std_strOf, std_bytesOf, std_isB, std_zOf, zOf_int, std_isI, isI_int, std_getL, std_nmul, std_sOf, sOf_str, std_isS, isS_str] at *)
  all_goals first
    | exact ⟨hv, hn⟩
    | exact ⟨by omega, by omega⟩
    | omega
    | trace_state
noncomputable def c_rRight : Ct := fun A args => match args with
  | [.int .i64 n, .str r] => some (some (A.tp fun _ => r.length ≤ 1000000), .bool (A.tb fun _ => rr n r))
  | _ => none
noncomputable def c_rAhead : Ct := fun A args => match args with
  | [.int .i64 k] => some (none, .int .i64 (A.ti fun _ => (fAh k : Int)))
  | _ => none
noncomputable def c_rMust : Ct := fun A args => match args with
  | [.int .u64 v, .int .i64 n] => some (some (A.tp fun _ => (0 ≤ v ∧ v < 18446744073709551616) ∧ (-9223372036854775808 ≤ n ∧ n < 9223372036854775808)), .str (A.ts fun _ => puS v n))
  | _ => none
noncomputable def gh4 : Ar → Pu := addC 65 c_rRight (addC 143 c_rAhead (addC 120 c_rMust (gh3)))
theorem gh4_ok : PuOk Tryz.prog gl0 (gh4 std) := by
  refine addC_ok (addC_ok (addC_ok (gh3_ok) ⟨_, Tryz.func120, rfl, by decide⟩ ?_) ⟨_, Tryz.func143, rfl, by decide⟩ ?_) ⟨_, Tryz.func65, rfl, by decide⟩ ?_
  · intro args p r h hp
    unfold c_rMust at h
    split at h <;> cases h
    exact good_rMust _ _ hp.1 hp.2
  · intro args p r h hp
    unfold c_rAhead at h
    split at h <;> cases h
    exact good_rAhead _
  · intro args p r h hp
    unfold c_rRight at h
    split at h <;> cases h
    exact good_rRight _ _ hp
def fWx (n : Int) (L : List UInt8) : List UInt8 := if dKd n < 3 then L else puS (L.length : Int) (fAh (dKd n) : Int) ++ L
theorem fAh_0 {k : Int} : fAh k = 0 ↔ k < 3 := by
  unfold fAh
  split
  · simp; assumption
  · split <;> simp <;> omega
theorem fAh_le (k : Int) : fAh k ≤ 3 := by unfold fAh; split; omega; split <;> omega
theorem wx_pre {k : Int} {L : List UInt8} (hL : L.length ≤ 1000000) : ((0 : Int) ≤ (L.length : Int) ∧ (L.length : Int) < 18446744073709551616) ∧ ((fAh k : Nat) : Int) < 9223372036854775808 := by
  have := fAh_le k
  refine ⟨⟨?_, ?_⟩, ?_⟩ <;> omega
theorem good_rWrite (n : Int) (L : List UInt8) (hL : L.length ≤ 1000000) : GoodP Tryz.prog gl0 118 [.int .i64 n, .str L] (rowS eB 0 1 std fun _ => fWx n L) := by
  refine fn_sound' (T := seatT) (G := gh4) (X := noX) seatT_ok gh4_ok noX_ok noI_ok mixed Tryz.func118 (.none) (fun A => [.int .i64 n, .str L]) (fun A => rowS eB 0 1 A fun _ => fWx n L) fun A hA => ?_
  cbv
  repeat' (first | with_reducible exact True.intro | with_reducible exact dr_ok hA (by kernel_rfl) | with_reducible refine And.intro ?_ ?_ | (intro hc; cbv))
  all_goals (subst hA; simp [std_add, std_sub, std_mul, std_quo, std_rem, std_band, std_bor, std_bxor, std_shl, std_shr, std_eq, std_ne, std_lt, std_le, std_conv, std_not, std_beq, std_bne, std_ite, std_want, std_and2, std_sadd, std_seq, std_sne, std_slt, std_sle, std_sgt, std_sge, std_slen, std_sget, std_scut, std_ofNat, std_toNat, std_nsub, std_nadd, std_lenOf, std_nz, std_nneg, std_inb, std_upto, std_slt63, std_grow, std_imp, std_impN, std_tr, std_tb, std_ti, std_ts, std_tn, std_tp, std_nmin, std_makes, std_room, std_zeros, std_nilq, std_notq, std_eqi, std_eqn, std_eqb, std_eqs, std_eqv, std_cat, std_lst, std_rset, std_rcopy, std_shift, std_eqr, std_strOf, std_bytesOf, std_isB, std_zOf, zOf_int, std_isI, isI_int, std_getL, std_nmul, std_sOf, sOf_str, std_isS, isS_str] at *)
  all_goals (have hu : IntKind.u64.wrap (L.length : Int) = (L.length : Int) := wU64' (by omega))
  all_goals (have hl := fAh_le (dKd n))
  all_goals (have h19 := puS_len (L.length : Int) (fAh (dKd n) : Int))
  all_goals (have hx : (dKd n < 3 → fWx n L = L) ∧ (¬dKd n < 3 → fWx n L = puS (L.length : Int) (fAh (dKd n) : Int) ++ L) := ⟨fun h => if_pos h, fun h => if_neg h⟩)
  all_goals rw [← fAh_0] at hx
  all_goals (try rw [hu])
  all_goals first
    | (rw [hx.1 hc]; exact (row_bytes L).eqr)
    | (rw [hx.1 hc]; done)
    | (rw [hx.2 hc]; exact (row_bytes _).eqr' (by simp))
    | (rw [hx.2 hc, List.length_append]; done)
    | exact Nat.le_trans (Nat.add_le_add (puS_len _ _) hL) (by decide)
    | exact wx_pre hL
    | omega
    | trace_state
end Go.Vd

set_option linter.unusedVariables false
set_option linter.unusedSimpArgs false
set_option maxRecDepth 100000
set_option maxHeartbeats 4000000
namespace Go.Vd
open Go.Proofs
def fZ (n : Int) (B : List UInt8) : Nat := if dKd n < 3 then (dSz n).toNat else gVal (B.take (fAh (dKd n)))
def fRd (n : Int) (B : List UInt8) : List UInt8 × Nat × Int :=
  if dOk n = false then ([], 0, 5)
  else if B.length < fAh (dKd n) then ([], 0, 2)
  else if 3 ≤ dKd n ∧ (¬gErr (B.take (fAh (dKd n))) = 0 ∨ gVal (B.take (fAh (dKd n))) = 0) then ([], 0, 3)
  else if dSz n < (fZ n B : Int) then ([], 0, 4)
  else if B.length < fAh (dKd n) + fZ n B then ([], 0, 2)
  else if signs (dKd n) ((B.drop (fAh (dKd n))).take (fZ n B)) = true then ((B.drop (fAh (dKd n))).take (fZ n B), fAh (dKd n) + fZ n B, 0)
  else ([], 0, 3)
theorem rd_no {n : Int} {B : List UInt8} (h : dOk n = false) : fRd n B = ([], 0, 5) := if_pos h
theorem rd_s1 {n : Int} {B : List UInt8} (h : dOk n = true) (h1 : B.length < fAh (dKd n)) : fRd n B = ([], 0, 2) := by
  unfold fRd; rw [if_neg (by rw [h]; simp), if_pos h1]
theorem rd_f1 {n : Int} {B : List UInt8} (h : dOk n = true) (h1 : ¬B.length < fAh (dKd n)) (hk : 3 ≤ dKd n) (h2 : ¬gErr (B.take (fAh (dKd n))) = 0 ∨ gVal (B.take (fAh (dKd n))) = 0) : fRd n B = ([], 0, 3) := by
  unfold fRd; rw [if_neg (by rw [h]; simp), if_neg h1, if_pos ⟨hk, h2⟩]
theorem rd_go {n : Int} {B : List UInt8} (h : dOk n = true) (h1 : ¬B.length < fAh (dKd n)) (h2 : 3 ≤ dKd n → gErr (B.take (fAh (dKd n))) = 0 ∧ ¬gVal (B.take (fAh (dKd n))) = 0) : fRd n B = if dSz n < (fZ n B : Int) then ([], 0, 4)
  else if B.length < fAh (dKd n) + fZ n B then ([], 0, 2)
  else if signs (dKd n) ((B.drop (fAh (dKd n))).take (fZ n B)) = true then ((B.drop (fAh (dKd n))).take (fZ n B), fAh (dKd n) + fZ n B, 0)
  else ([], 0, 3) := by
  unfold fRd
  rw [if_neg (by rw [h]; simp), if_neg h1, if_neg (fun e => by have := h2 e.1; rcases e.2 with e | e; exact e this.1; exact this.2 e)]
theorem cutS (B : List UInt8) {k : Nat} (h : k ≤ B.length) : strOfS k (rowF eB 0 std fun _ => B) = B.take k := strOf_row (Reps.cut B k h)
theorem isB_any (B : List UInt8) (k : Nat) : isBS k (rowF eB 0 std fun _ => B) := fun i _ => ⟨_, rfl⟩
theorem isB_any' (B : List UInt8) (k a : Nat) : isBS k (fun i => rowF eB 0 std (fun _ => B) (a + i)) := fun i _ => ⟨_, rfl⟩
theorem cutS' (B : List UInt8) {a z : Nat} (h : a + z ≤ B.length) : strOfS z (fun i => rowF eB 0 std (fun _ => B) (a + i)) = (B.drop a).take z :=
  strOf_row (((Reps.lit (enc := eB) (d := 0) (k := 1) B).shift' a (by omega)).take z (by omega))
theorem gErr_03 {L : List UInt8} (h : ¬L = []) (h1 : L.length ≤ 19) : gErr L = 0 ∨ gErr L = 3 := by
  unfold gErr; rw [if_neg h, if_neg (by omega)]; split
  · exact .inl rfl
  · exact .inr rfl
def lnE (d : Nat) (z : Int) (B : List UInt8) : Int := if B.length < d then 2 else if ¬gErr (B.take d) = 0 then gErr (B.take d) else if gVal (B.take d) = 0 then 3 else if z < (gVal (B.take d) : Int) then 4 else 0
def lnV (d : Nat) (z : Int) (B : List UInt8) : Nat := if lnE d z B = 0 then gVal (B.take d) else 0
theorem ln_1 {d : Nat} {z : Int} {B : List UInt8} (h : B.length < d) : lnE d z B = 2 ∧ lnV d z B = 0 := by
  have e : lnE d z B = 2 := if_pos h
  exact ⟨e, by unfold lnV; rw [e]; rfl⟩
theorem ln_2 {d : Nat} {z : Int} {B : List UInt8} (h : ¬B.length < d) (h1 : ¬gErr (B.take d) = 0) : lnE d z B = gErr (B.take d) ∧ lnV d z B = 0 := by
  have e : lnE d z B = gErr (B.take d) := by unfold lnE; rw [if_neg h, if_pos h1]
  exact ⟨e, by unfold lnV; rw [e, if_neg h1]⟩
theorem ln_3 {d : Nat} {z : Int} {B : List UInt8} (h : ¬B.length < d) (h1 : gErr (B.take d) = 0) (h2 : gVal (B.take d) = 0) : lnE d z B = 3 ∧ lnV d z B = 0 := by
  have e : lnE d z B = 3 := by unfold lnE; rw [if_neg h, if_neg (fun e => e h1), if_pos h2]
  exact ⟨e, by unfold lnV; rw [e]; rfl⟩
theorem ln_4 {d : Nat} {z : Int} {B : List UInt8} (h : ¬B.length < d) (h1 : gErr (B.take d) = 0) (h2 : ¬gVal (B.take d) = 0) (h3 : z < (gVal (B.take d) : Int)) : lnE d z B = 4 ∧ lnV d z B = 0 := by
  have e : lnE d z B = 4 := by unfold lnE; rw [if_neg h, if_neg (fun e => e h1), if_neg h2, if_pos h3]
  exact ⟨e, by unfold lnV; rw [e]; rfl⟩
theorem ln_5 {d : Nat} {z : Int} {B : List UInt8} (h : ¬B.length < d) (h1 : gErr (B.take d) = 0) (h2 : ¬gVal (B.take d) = 0) (h3 : ¬z < (gVal (B.take d) : Int)) : lnE d z B = 0 ∧ lnV d z B = gVal (B.take d) := by
  have e : lnE d z B = 0 := by unfold lnE; rw [if_neg h, if_neg (fun e => e h1), if_neg h2, if_neg h3]
  exact ⟨e, by unfold lnV; rw [e]; rfl⟩
theorem wz {z : Int} (hz : 1 ≤ z ∧ z ≤ 999) : IntKind.u64.wrap z = z := wU64' (by omega)
theorem wv {z : Int} (hz : 1 ≤ z ∧ z ≤ 999) {v : Nat} (h : (v : Int) ≤ z) : IntKind.i64.wrap (v : Int) = (v : Int) := w64 (by omega)
theorem good_fxD (z : Int) (L : List UInt8) (hL : L.length ≤ 1000000) : GoodP Tryz.prog gl0 202 [.agg [.int .i64 z, .clo 112 []], .str L] (.bool (std.tb fun _ => decide ((L.length : Int) = z) && isD L)) := by
  refine fn_sound' (T := seatT) (G := gh4) (X := noX) seatT_ok gh4_ok noX_ok noI_ok mixed Tryz.func202 (.one) (fun A => [.agg [.int .i64 z, .clo 112 []], .str L]) (fun A => .bool (A.tb fun _ => decide ((L.length : Int) = z) && isD L)) fun A hA => ?_
  cbv
  repeat' (first | with_reducible exact True.intro | with_reducible exact dr_ok hA (by kernel_rfl) | with_reducible refine And.intro ?_ ?_ | (intro hc; cbv))
  all_goals (subst hA; simp [std_add, std_sub, std_mul, std_quo, std_rem, std_band, std_bor, std_bxor, std_shl, std_shr, std_eq, std_ne, std_lt, std_le, std_conv, std_not, std_beq, std_bne, std_ite, std_want, std_and2, std_sadd, std_seq, std_sne, std_slt, std_sle, std_sgt, std_sge, std_slen, std_sget, std_scut, std_ofNat, std_toNat, std_nsub, std_nadd, std_lenOf, std_nz, std_nneg, std_inb, std_upto, std_slt63, std_grow, std_imp, std_impN, std_tr, std_tb, std_ti, std_ts, std_tn, std_tp, std_nmin, std_makes, std_room, std_zeros, std_nilq, std_notq, std_eqi, std_eqn, std_eqb, std_eqs, std_eqv, std_cat, std_lst, std_rset, std_rcopy, std_shift, std_eqr, std_strOf, std_bytesOf, std_isB, std_zOf, zOf_int, std_isI, isI_int, std_getL, std_nmul, std_sOf, sOf_str, std_isS, isS_str] at *)
  all_goals first
    | assumption
    | omega
    | (simp [*]; done)
    | (intro h; exact ⟨h, hL⟩)
    | trace_state
theorem good_fxT (z : Int) (L : List UInt8) (hL : L.length ≤ 1000000) : GoodP Tryz.prog gl0 202 [.agg [.int .i64 z, .clo 145 []], .str L] (.bool (std.tb fun _ => decide ((L.length : Int) = z) && isT L)) := by
  refine fn_sound' (T := seatT) (G := gh4) (X := noX) seatT_ok gh4_ok noX_ok noI_ok mixed Tryz.func202 (.one) (fun A => [.agg [.int .i64 z, .clo 145 []], .str L]) (fun A => .bool (A.tb fun _ => decide ((L.length : Int) = z) && isT L)) fun A hA => ?_
  cbv
  repeat' (first | with_reducible exact True.intro | with_reducible exact dr_ok hA (by kernel_rfl) | with_reducible refine And.intro ?_ ?_ | (intro hc; cbv))
  all_goals (subst hA; simp [std_add, std_sub, std_mul, std_quo, std_rem, std_band, std_bor, std_bxor, std_shl, std_shr, std_eq, std_ne, std_lt, std_le, std_conv, std_not, std_beq, std_bne, std_ite, std_want, std_and2, std_sadd, std_seq, std_sne, std_slt, std_sle, std_sgt, std_sge, std_slen, std_sget, std_scut, std_ofNat, std_toNat, std_nsub, std_nadd, std_lenOf, std_nz, std_nneg, std_inb, std_upto, std_slt63, std_grow, std_imp, std_impN, std_tr, std_tb, std_ti, std_ts, std_tn, std_tp, std_nmin, std_makes, std_room, std_zeros, std_nilq, std_notq, std_eqi, std_eqn, std_eqb, std_eqs, std_eqv, std_cat, std_lst, std_rset, std_rcopy, std_shift, std_eqr, std_strOf, std_bytesOf, std_isB, std_zOf, zOf_int, std_isI, isI_int, std_getL, std_nmul, std_sOf, sOf_str, std_isS, isS_str] at *)
  all_goals first
    | assumption
    | omega
    | (simp [*]; done)
    | (intro h; exact ⟨h, hL⟩)
    | trace_state
theorem good_lgD (z d : Int) (L : List UInt8) (hL : L.length ≤ 1000000) : GoodP Tryz.prog gl0 204 [.agg [.int .i64 z, .int .i64 d, .clo 112 []], .str L] (.bool (std.tb fun _ => (decide (1 ≤ (L.length : Int)) && decide ((L.length : Int) ≤ z)) && isD L)) := by
  refine fn_sound' (T := seatT) (G := gh4) (X := noX) seatT_ok gh4_ok noX_ok noI_ok mixed Tryz.func204 (.one) (fun A => [.agg [.int .i64 z, .int .i64 d, .clo 112 []], .str L]) (fun A => .bool (A.tb fun _ => (decide (1 ≤ (L.length : Int)) && decide ((L.length : Int) ≤ z)) && isD L)) fun A hA => ?_
  cbv
  repeat' (first | with_reducible exact True.intro | with_reducible exact dr_ok hA (by kernel_rfl) | with_reducible refine And.intro ?_ ?_ | (intro hc; cbv))
  all_goals (subst hA; simp [std_add, std_sub, std_mul, std_quo, std_rem, std_band, std_bor, std_bxor, std_shl, std_shr, std_eq, std_ne, std_lt, std_le, std_conv, std_not, std_beq, std_bne, std_ite, std_want, std_and2, std_sadd, std_seq, std_sne, std_slt, std_sle, std_sgt, std_sge, std_slen, std_sget, std_scut, std_ofNat, std_toNat, std_nsub, std_nadd, std_lenOf, std_nz, std_nneg, std_inb, std_upto, std_slt63, std_grow, std_imp, std_impN, std_tr, std_tb, std_ti, std_ts, std_tn, std_tp, std_nmin, std_makes, std_room, std_zeros, std_nilq, std_notq, std_eqi, std_eqn, std_eqb, std_eqs, std_eqv, std_cat, std_lst, std_rset, std_rcopy, std_shift, std_eqr, std_strOf, std_bytesOf, std_isB, std_zOf, zOf_int, std_isI, isI_int, std_getL, std_nmul, std_sOf, sOf_str, std_isS, isS_str] at *)
  all_goals first
    | assumption
    | omega
    | (simp [*]; done)
    | (intros; first | exact hL | (constructor <;> first | assumption | omega))
    | (intro h1 h2; exact absurd (hc h1) (Int.not_lt.2 h2))
    | trace_state
theorem good_lgT (z d : Int) (L : List UInt8) (hL : L.length ≤ 1000000) : GoodP Tryz.prog gl0 204 [.agg [.int .i64 z, .int .i64 d, .clo 145 []], .str L] (.bool (std.tb fun _ => (decide (1 ≤ (L.length : Int)) && decide ((L.length : Int) ≤ z)) && isT L)) := by
  refine fn_sound' (T := seatT) (G := gh4) (X := noX) seatT_ok gh4_ok noX_ok noI_ok mixed Tryz.func204 (.one) (fun A => [.agg [.int .i64 z, .int .i64 d, .clo 145 []], .str L]) (fun A => .bool (A.tb fun _ => (decide (1 ≤ (L.length : Int)) && decide ((L.length : Int) ≤ z)) && isT L)) fun A hA => ?_
  cbv
  repeat' (first | with_reducible exact True.intro | with_reducible exact dr_ok hA (by kernel_rfl) | with_reducible refine And.intro ?_ ?_ | (intro hc; cbv))
  all_goals (subst hA; simp [std_add, std_sub, std_mul, std_quo, std_rem, std_band, std_bor, std_bxor, std_shl, std_shr, std_eq, std_ne, std_lt, std_le, std_conv, std_not, std_beq, std_bne, std_ite, std_want, std_and2, std_sadd, std_seq, std_sne, std_slt, std_sle, std_sgt, std_sge, std_slen, std_sget, std_scut, std_ofNat, std_toNat, std_nsub, std_nadd, std_lenOf, std_nz, std_nneg, std_inb, std_upto, std_slt63, std_grow, std_imp, std_impN, std_tr, std_tb, std_ti, std_ts, std_tn, std_tp, std_nmin, std_makes, std_room, std_zeros, std_nilq, std_notq, std_eqi, std_eqn, std_eqb, std_eqs, std_eqv, std_cat, std_lst, std_rset, std_rcopy, std_shift, std_eqr, std_strOf, std_bytesOf, std_isB, std_zOf, zOf_int, std_isI, isI_int, std_getL, std_nmul, std_sOf, sOf_str, std_isS, isS_str] at *)
  all_goals first
    | assumption
    | omega
    | (simp [*]; done)
    | (intros; first | exact hL | (constructor <;> first | assumption | omega))
    | (intro h1 h2; exact absurd (hc h1) (Int.not_lt.2 h2))
    | trace_state
theorem good_lenF (a b z z' : Int) (c : Nat) (B : List UInt8) (hB : B.length ≤ 1000000) : GoodP Tryz.prog gl0 156 [.agg [.int .i64 a, .int .i64 b, .int .i64 z], .ifc 188 (.agg [.int .i64 z', .clo c []]), rowS eB 0 1 std fun _ => B] (.tup [.int .i64 z, .int .i64 0]) := by
  refine fn_sound' (T := seatT) (G := gh4) (X := xF) seatT_ok gh4_ok xF_ok iF_ok mixed Tryz.func156 (.one) (fun A => [.agg [.int .i64 a, .int .i64 b, .int .i64 z], .ifc 188 (.agg [.int .i64 z', .clo c []]), rowS eB 0 1 A fun _ => B]) (fun A => .tup [.int .i64 z, .int .i64 0]) fun A hA => ?_
  cbv
  repeat' (first | with_reducible exact True.intro | with_reducible exact dr_ok hA (by kernel_rfl) | with_reducible refine And.intro ?_ ?_ | (intro hc; cbv))
  all_goals (subst hA; simp [std_add, std_sub, std_mul, std_quo, std_rem, std_band, std_bor, std_bxor, std_shl, std_shr, std_eq, std_ne, std_lt, std_le, std_conv, std_not, std_beq, std_bne, std_ite, std_want, std_and2, std_sadd, std_seq, std_sne, std_slt, std_sle, std_sgt, std_sge, std_slen, std_sget, std_scut, std_ofNat, std_toNat, std_nsub, std_nadd, std_lenOf, std_nz, std_nneg, std_inb, std_upto, std_slt63, std_grow, std_imp, std_impN, std_tr, std_tb, std_ti, std_ts, std_tn, std_tp, std_nmin, std_makes, std_room, std_zeros, std_nilq, std_notq, std_eqi, std_eqn, std_eqb, std_eqs, std_eqv, std_cat, std_lst, std_rset, std_rcopy, std_shift, std_eqr, std_strOf, std_bytesOf, std_isB, std_zOf, zOf_int, std_isI, isI_int, std_getL, std_nmul, std_sOf, sOf_str, std_isS, isS_str] at *)
theorem good_lenL (a b z z' : Int) (d c : Nat) (B : List UInt8) (hd : d = 2 ∨ d = 3) (hz : 1 ≤ z ∧ z ≤ 999) (hB : B.length ≤ 1000000) : GoodP Tryz.prog gl0 156 [.agg [.int .i64 a, .int .i64 b, .int .i64 z], .ifc 190 (.agg [.int .i64 z', .int .i64 (d : Nat), .clo c []]), rowS eB 0 1 std fun _ => B] (.tup [.int .i64 (std.ti fun _ => (lnV d z B : Int)), .int .i64 (std.ti fun _ => lnE d z B)]) := by
  refine fn_sound' (T := seatT) (G := gh4) (X := xF) seatT_ok gh4_ok xF_ok iF_ok mixed Tryz.func156 (.one) (fun A => [.agg [.int .i64 a, .int .i64 b, .int .i64 z], .ifc 190 (.agg [.int .i64 z', .int .i64 (d : Nat), .clo c []]), rowS eB 0 1 A fun _ => B]) (fun A => .tup [.int .i64 (A.ti fun _ => (lnV d z B : Int)), .int .i64 (A.ti fun _ => lnE d z B)]) fun A hA => ?_
  cbv
  repeat' (first | with_reducible exact True.intro | with_reducible exact dr_ok hA (by kernel_rfl) | with_reducible refine And.intro ?_ ?_ | (intro hc; cbv))
  all_goals (subst hA; simp [-List.getD_eq_getElem?_getD, std_add, std_sub, std_mul, std_quo, std_rem, std_band, std_bor, std_bxor, std_shl, std_shr, std_eq, std_ne, std_lt, std_le, std_conv, std_not, std_beq, std_bne, std_ite, std_want, std_and2, std_sadd, std_seq, std_sne, std_slt, std_sle, std_sgt, std_sge, std_slen, std_sget, std_scut, std_ofNat, std_toNat, std_nsub, std_nadd, std_lenOf, std_nz, std_nneg, std_inb, std_upto, std_slt63, std_grow, std_imp, std_impN, std_tr, std_tb, std_ti, std_ts, std_tn, std_tp, std_nmin, std_makes, std_room, std_zeros, std_nilq, std_notq, std_eqi, std_eqn, std_eqb, std_eqs, std_eqv, std_cat, std_lst, std_rset, std_rcopy, std_shift, std_eqr, std_strOf, std_bytesOf, std_isB, std_zOf, zOf_int, std_isI, isI_int, std_getL, std_nmul, std_sOf, sOf_str, std_isS, isS_str, strOf_lit, lstOf_lit inj_eB, lstOf_lit inj_eZ, lstOf_lit inj_eBs, lstOf_lit inj_eS, isB_any, isB_any', wz hz] at *)
  all_goals first
    | omega
    | (exfalso; omega)
    | exact (ln_1 hc).1.symm
    | (rw [(ln_1 hc).2]; rfl)
    | (have hB2 : d ≤ B.length := by omega
       simp only [cutS B hB2] at *
       have hn : ¬B.length < d := by omega
       first
         | exact (ln_2 hn (by assumption)).1.symm
         | (rw [(ln_2 hn (by assumption)).2]; rfl)
         | exact (ln_3 hn (by assumption) (by assumption)).1.symm
         | (rw [(ln_3 hn (by assumption) (by assumption)).2]; rfl)
         | exact (ln_4 hn (by assumption) (by assumption) (by assumption)).1.symm
         | (rw [(ln_4 hn (by assumption) (by assumption) (by assumption)).2]; rfl)
         | exact (ln_5 hn (by assumption) (by assumption) (Int.not_lt.2 hc)).1.symm
         | (rw [(ln_5 hn (by assumption) (by assumption) (Int.not_lt.2 hc)).2]; exact wv hz hc))
    | trace_state
end Go.Vd

set_option linter.unusedVariables false
set_option linter.unusedSimpArgs false
set_option maxRecDepth 100000
set_option maxHeartbeats 4000000
namespace Go.Vd
open Go.Proofs
/-- One contract, or another. -/
def orC (c1 c2 : Ct) : Ct := fun A args => match c1 A args with
  | some x => some x
  | none => c2 A args
theorem orC_ok {P : Program} {gl : Nat → SV} {f : Nat} {c1 c2 : Ct} (h1 : ∀ args p r, c1 std args = some (p, r) → holds p → GoodP P gl f args r) (h2 : ∀ args p r, c2 std args = some (p, r) → holds p → GoodP P gl f args r) :
    ∀ args p r, orC c1 c2 std args = some (p, r) → holds p → GoodP P gl f args r := by
  intro args p r h hp
  unfold orC at h
  split at h
  · rename_i x hx
    cases h
    exact h1 _ _ _ hx hp
  · exact h2 _ _ _ h hp
theorem good_lenL' {a b z z' d : Int} {c m : Nat} {f : Nat → Nat → SV} (hp : ((d = 2 ∨ d = 3) ∧ (1 ≤ z ∧ z ≤ 999)) ∧ isRow eB 0 1 m f ∧ m ≤ 1000000) : GoodP Tryz.prog gl0 156 [.agg [.int .i64 a, .int .i64 b, .int .i64 z], .ifc 190 (.agg [.int .i64 z', .int .i64 d, .clo c []]), .slc m 1 f] (.tup [.int .i64 (std.ti fun _ => (lnV d.toNat z (lstOf eB 0 1 m f) : Int)), .int .i64 (std.ti fun _ => lnE d.toNat z (lstOf eB 0 1 m f))]) := by
  obtain ⟨D, rfl⟩ : ∃ D : Nat, d = D := ⟨d.toNat, by omega⟩
  exact good_sv (good_lenL a b z z' D c (lstOf eB 0 1 m f) (by omega) hp.1.2 (by rw [lstOf_length hp.2.1]; exact hp.2.2)) ⟨⟨_, rfl, rfl, rfl, rfl, trivial⟩, rfl, hp.2.1.sv, trivial⟩
noncomputable def c_fxD : Ct := fun A args => match args with
  | [.agg [.int .i64 z, .clo 112 []], .str L] => some (some (A.tp fun _ => L.length ≤ 1000000), .bool (A.tb fun _ => decide ((L.length : Int) = z) && isD L))
  | _ => none
theorem c_fxD_ok : ∀ args p r, c_fxD std args = some (p, r) → holds p → GoodP Tryz.prog gl0 202 args r := by
  intro args p r h hp
  unfold c_fxD at h
  split at h <;> cases h
  exact good_fxD _ _ hp
noncomputable def c_fxT : Ct := fun A args => match args with
  | [.agg [.int .i64 z, .clo 145 []], .str L] => some (some (A.tp fun _ => L.length ≤ 1000000), .bool (A.tb fun _ => decide ((L.length : Int) = z) && isT L))
  | _ => none
theorem c_fxT_ok : ∀ args p r, c_fxT std args = some (p, r) → holds p → GoodP Tryz.prog gl0 202 args r := by
  intro args p r h hp
  unfold c_fxT at h
  split at h <;> cases h
  exact good_fxT _ _ hp
noncomputable def c_lgD : Ct := fun A args => match args with
  | [.agg [.int .i64 z, .int .i64 d, .clo 112 []], .str L] => some (some (A.tp fun _ => L.length ≤ 1000000), .bool (A.tb fun _ => (decide (1 ≤ (L.length : Int)) && decide ((L.length : Int) ≤ z)) && isD L))
  | _ => none
theorem c_lgD_ok : ∀ args p r, c_lgD std args = some (p, r) → holds p → GoodP Tryz.prog gl0 204 args r := by
  intro args p r h hp
  unfold c_lgD at h
  split at h <;> cases h
  exact good_lgD _ _ _ hp
noncomputable def c_lgT : Ct := fun A args => match args with
  | [.agg [.int .i64 z, .int .i64 d, .clo 145 []], .str L] => some (some (A.tp fun _ => L.length ≤ 1000000), .bool (A.tb fun _ => (decide (1 ≤ (L.length : Int)) && decide ((L.length : Int) ≤ z)) && isT L))
  | _ => none
theorem c_lgT_ok : ∀ args p r, c_lgT std args = some (p, r) → holds p → GoodP Tryz.prog gl0 204 args r := by
  intro args p r h hp
  unfold c_lgT at h
  split at h <;> cases h
  exact good_lgT _ _ _ hp
noncomputable def c_lenF : Ct := fun A args => match args with
  | [.agg [.int .i64 a, .int .i64 b, .int .i64 z], .ifc 188 (.agg [.int .i64 z', .clo c []]), .slc m 1 f] => some (some (A.tp fun _ => isRow eB 0 1 m f ∧ m ≤ 1000000), .tup [.int .i64 z, .int .i64 0])
  | _ => none
theorem c_lenF_ok : ∀ args p r, c_lenF std args = some (p, r) → holds p → GoodP Tryz.prog gl0 156 args r := by
  intro args p r h hp
  unfold c_lenF at h
  split at h <;> cases h
  exact good_sv (good_lenF _ _ _ _ _ _ (by rw [lstOf_length hp.1]; exact hp.2)) ⟨⟨_, rfl, rfl, rfl, rfl, trivial⟩, rfl, hp.1.sv, trivial⟩
noncomputable def c_lenL : Ct := fun A args => match args with
  | [.agg [.int .i64 a, .int .i64 b, .int .i64 z], .ifc 190 (.agg [.int .i64 z', .int .i64 d, .clo c []]), .slc m 1 f] => some (some (A.tp fun _ => ((d = 2 ∨ d = 3) ∧ (1 ≤ z ∧ z ≤ 999)) ∧ isRow eB 0 1 m f ∧ m ≤ 1000000), .tup [.int .i64 (A.ti fun _ => (lnV d.toNat z (lstOf eB 0 1 m f) : Int)), .int .i64 (A.ti fun _ => lnE d.toNat z (lstOf eB 0 1 m f))])
  | _ => none
theorem c_lenL_ok : ∀ args p r, c_lenL std args = some (p, r) → holds p → GoodP Tryz.prog gl0 156 args r := by
  intro args p r h hp
  unfold c_lenL at h
  split at h <;> cases h
  exact good_lenL' hp
noncomputable def gh5 : Ar → Pu := addC 202 (orC c_fxD c_fxT) (addC 204 (orC c_lgD c_lgT) (addC 156 (orC c_lenF c_lenL) gh4))
theorem gh5_ok : PuOk Tryz.prog gl0 (gh5 std) := addC_ok (addC_ok (addC_ok gh4_ok ⟨_, Tryz.func156, rfl, by decide⟩ (orC_ok c_lenF_ok c_lenL_ok)) ⟨_, Tryz.func204, rfl, by decide⟩ (orC_ok c_lgD_ok c_lgT_ok)) ⟨_, Tryz.func202, rfl, by decide⟩ (orC_ok c_fxD_ok c_fxT_ok)
theorem rd_fix {n : Int} {B : List UInt8} (h : dOk n = true) (hk : dKd n < 3) : fRd n B = if B.length < (dSz n).toNat then ([], 0, 2) else if rr n (B.take (dSz n).toNat) = true then (B.take (dSz n).toNat, (dSz n).toNat, 0) else ([], 0, 3) := by
  have hb := dOk_b h
  have ha : fAh (dKd n) = 0 := fAh_0.2 hk
  have hz : fZ n B = (dSz n).toNat := if_pos hk
  rw [rd_go h (by omega) (fun e => by omega), hz, ha, if_neg (by omega), Nat.zero_add, List.drop_zero]
  by_cases hl : B.length < (dSz n).toNat
  · rw [if_pos hl, if_pos hl]
  · rw [if_neg hl, if_neg hl, rr_fix h hk]
    have : ((B.take (dSz n).toNat).length : Int) = dSz n := by rw [List.length_take]; omega
    rw [decide_eq_true this, Bool.true_and]
theorem rd_long {n : Int} {B : List UInt8} (h : dOk n = true) (hk : 3 ≤ dKd n) : fRd n B = if ¬lnE (fAh (dKd n)) (dSz n) B = 0 then ([], 0, lnE (fAh (dKd n)) (dSz n) B) else if B.length < fAh (dKd n) + lnV (fAh (dKd n)) (dSz n) B then ([], 0, 2)
    else if rr n ((B.drop (fAh (dKd n))).take (lnV (fAh (dKd n)) (dSz n) B)) = true then ((B.drop (fAh (dKd n))).take (lnV (fAh (dKd n)) (dSz n) B), fAh (dKd n) + lnV (fAh (dKd n)) (dSz n) B, 0) else ([], 0, 3) := by
  have hb := dOk_b h
  have ha : fAh (dKd n) = 2 ∨ fAh (dKd n) = 3 := by unfold fAh; rw [if_neg (by omega)]; split; exact .inr rfl; exact .inl rfl
  have hz : fZ n B = gVal (B.take (fAh (dKd n))) := if_neg (by omega)
  have hfd : fRd n B = if B.length < fAh (dKd n) then ([], 0, 2) else if ¬gErr (B.take (fAh (dKd n))) = 0 ∨ gVal (B.take (fAh (dKd n))) = 0 then ([], 0, 3) else if dSz n < (fZ n B : Int) then ([], 0, 4) else if B.length < fAh (dKd n) + fZ n B then ([], 0, 2) else if signs (dKd n) ((B.drop (fAh (dKd n))).take (fZ n B)) = true then ((B.drop (fAh (dKd n))).take (fZ n B), fAh (dKd n) + fZ n B, 0) else ([], 0, 3) := by
    unfold fRd; rw [if_neg (by rw [h]; simp)]; simp only [hk, true_and]
  generalize fAh (dKd n) = d at *
  have hrd : fRd n B = if B.length < d then ([], 0, 2) else if ¬gErr (B.take d) = 0 ∨ gVal (B.take d) = 0 then ([], 0, 3) else if dSz n < (fZ n B : Int) then ([], 0, 4) else if B.length < d + fZ n B then ([], 0, 2) else if signs (dKd n) ((B.drop d).take (fZ n B)) = true then ((B.drop d).take (fZ n B), d + fZ n B, 0) else ([], 0, 3) := hfd
  rw [hrd, hz]
  by_cases h1 : B.length < d
  · rw [if_pos h1, (ln_1 h1).1, if_pos (by decide)]
  · rw [if_neg h1]
    have hl : (B.take d).length = d := by rw [List.length_take]; omega
    by_cases h2 : gErr (B.take d) = 0
    · by_cases h3 : gVal (B.take d) = 0
      · rw [if_pos (.inr h3), (ln_3 h1 h2 h3).1, if_pos (by decide)]
      · rw [if_neg (fun e => e.elim (fun e => e h2) h3)]
        by_cases h4 : dSz n < (gVal (B.take d) : Int)
        · rw [if_pos h4, (ln_4 h1 h2 h3 h4).1, if_pos (by decide)]
        · have h5 := ln_5 h1 h2 h3 h4
          rw [if_neg h4, h5.1, h5.2, if_neg (show ¬¬(0 : Int) = 0 from fun e => e rfl)]
          by_cases h6 : B.length < d + gVal (B.take d)
          · rw [if_pos h6, if_pos h6]
          · rw [if_neg h6, if_neg h6, rr_long h (by omega)]
            have hq : ((B.drop d).take (gVal (B.take d))).length = gVal (B.take d) := by rw [List.length_take, List.length_drop]; omega
            rw [hq]
            have e1 : decide (1 ≤ ((gVal (B.take d) : Nat) : Int)) = true := by simp; omega
            have e2 : decide (((gVal (B.take d) : Nat) : Int) ≤ dSz n) = true := by simp; omega
            rw [e1, e2, Bool.true_and, Bool.true_and]
    · have h03 := gErr_03 (L := B.take d) (fun e => by rw [e] at hl; simp at hl; omega) (by omega)
      rw [if_pos (.inl h2), (ln_2 h1 h2).1, if_pos h2]
      rcases h03 with h03 | h03
      · exact absurd h03 h2
      · rw [h03]
noncomputable def iF2 : Nat → Option Func := addI 108 Tryz.f108 (addI 201 Tryz.f201 (addI 203 Tryz.f203 noI))
theorem iF2_ok : InOk Tryz.prog iF2 := addI_ok (addI_ok (addI_ok noI_ok Tryz.func203 (by kernel_rfl)) Tryz.func201 (by kernel_rfl)) Tryz.func108 (by kernel_rfl)
theorem lnV_le {d : Nat} {z : Int} {B : List UInt8} (hz : 0 ≤ z) : (lnV d z B : Int) ≤ z := by
  unfold lnV
  split
  · rename_i h
    unfold lnE at h
    split at h
    · cases h
    · split at h
      · rename_i h2; exact absurd h h2
      · split at h
        · cases h
        · split at h
          · cases h
          · omega
  · exact hz
theorem rdF {n : Int} {B : List UInt8} (h : dOk n = true) (hk : dKd n < 3) : ((B.length : Int) < IntKind.i64.wrap (dSz n) → fRd n B = ([], 0, 2)) ∧ (IntKind.i64.wrap (dSz n) ≤ (B.length : Int) → strOfS (IntKind.i64.wrap (dSz n)).toNat (fun i => rowF eB 0 std (fun _ => B) i) = B.take (dSz n).toNat ∧ IntKind.i64.wrap (dSz n) = (((dSz n).toNat : Nat) : Int) ∧
    (rr n (B.take (dSz n).toNat) = true → fRd n B = (B.take (dSz n).toNat, (dSz n).toNat, 0)) ∧ (rr n (B.take (dSz n).toNat) = false → fRd n B = ([], 0, 3)) ∧ (dSz n).toNat ≤ B.length) := by
  have hb := dOk_b h
  have hw : IntKind.i64.wrap (dSz n) = dSz n := w64 (by omega)
  rw [hw, rd_fix h hk]
  refine ⟨fun hl => by rw [if_pos (by omega)], fun hl => ⟨cutS B (by omega), by omega, fun hr => ?_, fun hr => ?_, by omega⟩⟩
  · rw [if_neg (by omega), if_pos hr]
  · rw [if_neg (by omega), if_neg (by rw [hr]; simp)]
theorem rdL {n : Int} {B : List UInt8} {d : Nat} {D : Int} (hD : D = (d : Int)) (hd : fAh (dKd n) = d) (h : dOk n = true) (hk : 3 ≤ dKd n) : (¬lnE d (dSz n) B = 0 → fRd n B = ([], 0, lnE d (dSz n) B)) ∧ (lnE d (dSz n) B = 0 → (B.length : Int) < IntKind.i64.wrap (D + (lnV d (dSz n) B : Int)) → fRd n B = ([], 0, 2)) ∧
    (lnE d (dSz n) B = 0 → IntKind.i64.wrap (D + (lnV d (dSz n) B : Int)) ≤ (B.length : Int) → strOfS ((IntKind.i64.wrap (D + (lnV d (dSz n) B : Int))).toNat - d) (fun i => rowF eB 0 std (fun _ => B) (d + i)) = (B.drop d).take (lnV d (dSz n) B) ∧ IntKind.i64.wrap (D + (lnV d (dSz n) B : Int)) = ((d + lnV d (dSz n) B : Nat) : Int) ∧
    (rr n ((B.drop d).take (lnV d (dSz n) B)) = true → fRd n B = ((B.drop d).take (lnV d (dSz n) B), d + lnV d (dSz n) B, 0)) ∧ (rr n ((B.drop d).take (lnV d (dSz n) B)) = false → fRd n B = ([], 0, 3)) ∧ d + lnV d (dSz n) B ≤ B.length) := by
  have hb := dOk_b h
  have hv := lnV_le (d := d) (z := dSz n) (B := B) (by omega)
  have hd3 := fAh_le (dKd n)
  have hw : IntKind.i64.wrap (D + (lnV d (dSz n) B : Int)) = ((d + lnV d (dSz n) B : Nat) : Int) := (w64 (by omega)).trans (by omega)
  rw [hw, rd_long h hk, hd]
  refine ⟨fun he => by rw [if_pos he], fun he hl => ?_, fun he hl => ⟨?_, rfl, fun hr => ?_, fun hr => ?_, by omega⟩⟩
  · rw [if_neg (fun e => e he), if_pos (by omega)]
  · rw [show ((d + lnV d (dSz n) B : Nat) : Int).toNat - d = lnV d (dSz n) B by omega]
    exact cutS' B (by omega)
  · rw [if_neg (fun e => e he), if_neg (by omega), if_pos hr]
  · rw [if_neg (fun e => e he), if_neg (by omega), if_neg (by rw [hr]; simp)]
theorem len_cut {B : List UInt8} {a z : Nat} (h : B.length ≤ 1000000) : ((B.drop a).take z).length ≤ 1000000 := by rw [List.length_take, List.length_drop]; omega
theorem len_cut0 {B : List UInt8} {z : Nat} (h : B.length ≤ 1000000) : (B.take z).length ≤ 1000000 := by rw [List.length_take]; omega
theorem good_gRead (n : Int) (B : List UInt8) (hB : B.length ≤ 1000000) : GoodP Tryz.prog gl0 132 [.int .i64 n, rowS eB 0 1 std fun _ => B] (.tup [.str (std.ts fun _ => (fRd n B).1), .int .i64 (std.ti fun _ => ((fRd n B).2.1 : Int)), .int .i64 (std.ti fun _ => (fRd n B).2.2)]) := by
  refine fn_sound' (T := seatT) (G := gh5) (X := xF) seatT_ok gh5_ok xF_ok iF2_ok mixed Tryz.func132 (.one) (fun A => [.int .i64 n, rowS eB 0 1 A fun _ => B]) (fun A => .tup [.str (A.ts fun _ => (fRd n B).1), .int .i64 (A.ti fun _ => ((fRd n B).2.1 : Int)), .int .i64 (A.ti fun _ => (fRd n B).2.2)]) fun A hA => ?_
  cbv
  repeat' (first | with_reducible exact True.intro | with_reducible exact dr_ok hA (by kernel_rfl) | with_reducible refine And.intro ?_ ?_ | (intro hc; cbv))
  all_goals (subst hA; simp [-List.getD_eq_getElem?_getD, std_add, std_sub, std_mul, std_quo, std_rem, std_band, std_bor, std_bxor, std_shl, std_shr, std_eq, std_ne, std_lt, std_le, std_conv, std_not, std_beq, std_bne, std_ite, std_want, std_and2, std_sadd, std_seq, std_sne, std_slt, std_sle, std_sgt, std_sge, std_slen, std_sget, std_scut, std_ofNat, std_toNat, std_nsub, std_nadd, std_lenOf, std_nz, std_nneg, std_inb, std_upto, std_slt63, std_grow, std_imp, std_impN, std_tr, std_tb, std_ti, std_ts, std_tn, std_tp, std_nmin, std_makes, std_room, std_zeros, std_nilq, std_notq, std_eqi, std_eqn, std_eqb, std_eqs, std_eqv, std_cat, std_lst, std_rset, std_rcopy, std_shift, std_eqr, std_strOf, std_bytesOf, std_isB, std_zOf, zOf_int, std_isI, isI_int, std_getL, std_nmul, std_sOf, sOf_str, std_isS, isS_str, strOf_lit, lstOf_lit inj_eB, lstOf_lit inj_eZ, lstOf_lit inj_eBs, lstOf_lit inj_eS, isRow_lit, isB_lit, isRow_nil, lstOf_nil inj_eB, lstOf_nil inj_eZ, lstOf_nil inj_eBs, lstOf_nil inj_eS, isB_any, isB_any'] at *)
  all_goals first
    | assumption
    | (rw [rd_no (by assumption)]; done)
    | (rw [rd_no (by assumption)]; rfl)
    | (have h : dOk n = true := by assumption
       have hb := dOk_b h
       have hk : dKd n < 3 := by omega
       have hL := rdF (B := B) h hk
       first
         | (rw [hL.1 hc]; done)
         | (rw [hL.1 hc]; rfl)
         | (obtain ⟨c1, c2, c3, c4, c5⟩ := hL.2 (by assumption)
            first
              | (rw [c2]; constructor <;> omega)
              | (rw [c2]; omega)
              | (rw [c1]; exact len_cut0 hB)
              | (simp only [c1] at hc
                 have hr : rr n (B.take (dSz n).toNat) = false := by first | exact rr_f1 h (by omega) (by assumption) | exact rr_f2 h (by omega) (by assumption)
                 rw [c4 hr]
                 first | done | rfl)
              | (simp only [c1] at hc
                 have hr : rr n (B.take (dSz n).toNat) = true := by first | exact (rr_of1 h (by omega)).2 (by assumption) | exact (rr_of2 h (by omega)).2 (by assumption)
                 rw [c3 hr]
                 first | done | rfl | exact c1 | exact c2)))
    | (have h : dOk n = true := by assumption
       have hb := dOk_b h
       have hk : 3 ≤ dKd n := by omega
       have hd : fAh (dKd n) = 2 := by unfold fAh; rw [if_neg (by omega), if_neg (by omega)]
       have hL := rdL (B := B) (d := 2) (D := 2) rfl hd h hk
       first
         | (rw [hL.1 hc]; done)
         | (rw [hL.1 hc]; rfl)
         | (rw [hL.2.1 (by assumption) hc]; done)
         | (rw [hL.2.1 (by assumption) hc]; rfl)
         | exact ⟨⟨hb.2.2.1, hb.2.2.2.1⟩, hB⟩
         | (obtain ⟨c1, c2, c3, c4, c5⟩ := hL.2.2 (by assumption) (by assumption)
            first
              | (rw [c2]; constructor <;> omega)
              | (rw [c2]; omega)
              | (rw [c1]; exact len_cut hB)
              | (simp only [c1] at hc
                 have hr : rr n ((B.drop 2).take (lnV 2 (dSz n) B)) = false := by first | exact rr_f3 h (by omega) (by assumption) | exact rr_f4 h (by omega) (by assumption)
                 rw [c4 hr]
                 first | done | rfl)
              | (simp only [c1] at hc
                 have hr : rr n ((B.drop 2).take (lnV 2 (dSz n) B)) = true := by first | exact (rr_of3 h (by omega)).2 (by assumption) | exact (rr_of4 h (by omega)).2 (by assumption)
                 rw [c3 hr]
                 first | done | rfl | exact c1 | exact c2)))
    | (have h : dOk n = true := by assumption
       have hb := dOk_b h
       have hk : 3 ≤ dKd n := by omega
       have hd : fAh (dKd n) = 3 := by unfold fAh; rw [if_neg (by omega), if_pos (by omega)]
       have hL := rdL (B := B) (d := 3) (D := 3) rfl hd h hk
       first
         | (rw [hL.1 hc]; done)
         | (rw [hL.1 hc]; rfl)
         | (rw [hL.2.1 (by assumption) hc]; done)
         | (rw [hL.2.1 (by assumption) hc]; rfl)
         | exact ⟨⟨hb.2.2.1, hb.2.2.2.1⟩, hB⟩
         | (obtain ⟨c1, c2, c3, c4, c5⟩ := hL.2.2 (by assumption) (by assumption)
            first
              | (rw [c2]; constructor <;> omega)
              | (rw [c2]; omega)
              | (rw [c1]; exact len_cut hB)
              | (simp only [c1] at hc
                 have hr : rr n ((B.drop 3).take (lnV 3 (dSz n) B)) = false := by first | exact rr_f3 h (by omega) (by assumption) | exact rr_f4 h (by omega) (by assumption)
                 rw [c4 hr]
                 first | done | rfl)
              | (simp only [c1] at hc
                 have hr : rr n ((B.drop 3).take (lnV 3 (dSz n) B)) = true := by first | exact (rr_of3 h (by omega)).2 (by assumption) | exact (rr_of4 h (by omega)).2 (by assumption)
                 rw [c3 hr]
                 first | done | rfl | exact c1 | exact c2)))
    | trace_state
end Go.Vd

