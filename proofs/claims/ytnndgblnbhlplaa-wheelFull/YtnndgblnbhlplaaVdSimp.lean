/- What the operations on leaves are, one by one. -/
import Derived.Test.YtnndgblnbhlplaaVdEnc
set_option linter.unusedVariables false
namespace Go.Vd
theorem std_add (k) (a) (b) : std.add k a b = (k.wrap (a + b)) := rfl
theorem std_sub (k) (a) (b) : std.sub k a b = (k.wrap (a - b)) := rfl
theorem std_mul (k) (a) (b) : std.mul k a b = (k.wrap (a * b)) := rfl
theorem std_quo (k) (a) (b) : std.quo k a b = (k.wrap (a.tdiv b)) := rfl
theorem std_rem (a) (b) : std.rem a b = (a.tmod b) := rfl
theorem std_band (k) (a) (b) : std.band k a b = (bits .and k a b) := rfl
theorem std_bor (k) (a) (b) : std.bor k a b = (bits .or k a b) := rfl
theorem std_bxor (k) (a) (b) : std.bxor k a b = (bits .xor k a b) := rfl
theorem std_shl (k) (a) (b) : std.shl k a b = (k.wrap (a * 2 ^ (min b.toNat k.bits))) := rfl
theorem std_shr (k) (a) (b) : std.shr k a b = (a.fdiv (2 ^ (min b.toNat k.bits))) := rfl
theorem std_eq (a) (b) : std.eq a b = (a == b) := rfl
theorem std_ne (a) (b) : std.ne a b = (a != b) := rfl
theorem std_lt (a) (b) : std.lt a b = (decide (a < b)) := rfl
theorem std_le (a) (b) : std.le a b = (decide (a ≤ b)) := rfl
theorem std_conv (k) (n) : std.conv k n = (k.wrap n) := rfl
theorem std_not (b) : std.not b = (!b) := rfl
theorem std_beq (a) (b) : std.beq a b = (a == b) := rfl
theorem std_bne (a) (b) : std.bne a b = (!(a == b)) := rfl
theorem std_ite (c) (p) (q) : std.ite c p q = (bif c then p else q) := rfl
theorem std_want (c) (d) (w) : std.want c d w = (c && (d == w)) := rfl
theorem std_and2 (a) (b) : std.and2 a b = (a && b) := rfl
theorem std_sadd (a) (b) : std.sadd a b = (a ++ b) := rfl
theorem std_seq (a) (b) : std.seq a b = (a == b) := rfl
theorem std_sne (a) (b) : std.sne a b = (!(a == b)) := rfl
theorem std_slt (a) (b) : std.slt a b = (Op.bytesLess a b) := rfl
theorem std_sle (a) (b) : std.sle a b = (Op.bytesLess a b || (a == b)) := rfl
theorem std_sgt (a) (b) : std.sgt a b = (!(Op.bytesLess a b || (a == b))) := rfl
theorem std_sge (a) (b) : std.sge a b = (!Op.bytesLess a b) := rfl
theorem std_slen (s) : std.slen s = ((s.length : Int)) := rfl
theorem std_sget (s) (i) : std.sget s i = (((s[i.toNat]?.getD 0).toNat : Int)) := rfl
theorem std_scut (s) (a) (b) : std.scut s a b = ((s.take b.toNat).drop a.toNat) := rfl
theorem std_ofNat (n) : std.ofNat n = ((n : Int)) := rfl
theorem std_toNat (i) : std.toNat i = (i.toNat) := rfl
theorem std_nsub (a) (b) : std.nsub a b = (a - b) := rfl
theorem std_nadd (a) (b) : std.nadd a b = (a + b) := rfl
theorem std_lenOf (l) : std.lenOf l = (l.length) := rfl
theorem std_nz (b) : std.nz b = (b ≠ 0) := rfl
theorem std_nneg (b) : std.nneg b = (0 ≤ b) := rfl
theorem std_inb (i) (n) : std.inb i n = (0 ≤ i ∧ i < (n : Int)) := rfl
theorem std_upto (a) (b) : std.upto a b = (a ≤ b) := rfl
theorem std_slt63 (a) (b) : std.slt63 a b = (a.length + b.length ≤ 9223372036854775807) := rfl
theorem std_grow (n) (m) (b) : std.grow n m b = (n + m ≤ 9223372036854775807 ∧ (n + m) * b ≤ 140737488355328) := rfl
theorem std_imp (c) (p) : std.imp c p = (c = true → p) := rfl
theorem std_impN (c) (p) : std.impN c p = (c = false → p) := rfl
theorem std_tr (c) : std.tr c = (c = true) := rfl
theorem std_tb (f) : std.tb f = (f ()) := rfl
theorem std_ti (f) : std.ti f = (f ()) := rfl
theorem std_ts (f) : std.ts f = (f ()) := rfl
theorem std_tn (f) : std.tn f = (f ()) := rfl
theorem std_tp (f) : std.tp f = (f ()) := rfl
theorem std_nmin (a) (b) : std.nmin a b = (Nat.min a b) := rfl
theorem std_nset (g i n j) : std.nset g i n j = (if j = i then n else g j) := rfl
theorem std_fset (f i g j) : std.fset f i g j = (if j = i then g else f j) := rfl
theorem std_makes (a) (b) (by_) : std.makes a b by_ = (0 ≤ a ∧ a ≤ b ∧ b ≤ 9223372036854775807 ∧ b.toNat * by_ ≤ 140737488355328) := rfl
theorem std_room (b) (m) (n) : std.room b m n = (0 < n ∧ b + m ≤ n) := rfl
theorem std_zeros (z) (by_) : std.zeros z by_ = (0 < z ∧ z ≤ 4611686018427387904 ∧ z.toNat * by_ ≤ 140737488355328) := rfl
theorem std_nilq (b) (n) : std.nilq b n = (b = true → n = 0) := rfl
theorem std_zOf (s) : std.zOf s = zOfS s := rfl
theorem zOf_int (k n) : zOfS (.int k n) = n := rfl
theorem std_isI (k s) : std.isI k s = isIS k s := rfl
theorem std_getL (l n) : std.getL l n = getAt l n := rfl
theorem std_nmul (a b) : std.nmul a b = a * b := rfl
theorem std_sOf (s) : std.sOf s = sOfS s := rfl
theorem sOf_str (l) : sOfS (.str l) = l := rfl
theorem std_isS (s) : std.isS s = isSS s := rfl
theorem std_fadd (a b) : std.fadd a b = (Ieee.double.add a b).getD 0 := rfl
theorem std_fsub (a b) : std.fsub a b = (Ieee.double.sub a b).getD 0 := rfl
theorem std_fav (a b) : std.fav a b = ((Ieee.double.add a b).isSome = true) := rfl
theorem std_fsv (a b) : std.fsv a b = ((Ieee.double.sub a b).isSome = true) := rfl
theorem std_feq (a b) : std.feq a b = (Ieee.double.order a b == some .eq) := rfl
theorem std_fne (a b) : std.fne a b = (Ieee.double.order a b != some .eq) := rfl
theorem std_flt (a b) : std.flt a b = (Ieee.double.order a b == some .lt) := rfl
theorem std_fle (a b) : std.fle a b = (Ieee.double.order a b == some .lt || Ieee.double.order a b == some .eq) := rfl
theorem std_fgt (a b) : std.fgt a b = (Ieee.double.order a b == some .gt) := rfl
theorem std_fge (a b) : std.fge a b = (Ieee.double.order a b == some .gt || Ieee.double.order a b == some .eq) := rfl
theorem std_fOf (n) : std.fOf n = FloatKind.f64.nearest n := rfl
theorem std_fTo (b) : std.fTo b = ((FloatKind.f64.decode b).toInt .zero).getD 0 := rfl
theorem std_fTv (k b) : std.fTv k b = ∃ n, (FloatKind.f64.decode b).toInt .zero = some n ∧ k.min ≤ n ∧ n ≤ k.max := rfl
theorem isS_str (l) : isSS (.str l) := ⟨l, rfl⟩
theorem isI_int (k n) : isIS k (.int k n) := ⟨n, rfl⟩
theorem std_notq (b) (n) : std.notq b n = (b = false → n = 0) := rfl
theorem std_eqi (a) (b) : std.eqi a b = (a = b) := rfl
theorem std_eqn (a) (b) : std.eqn a b = (a = b) := rfl
theorem std_eqb (a) (b) : std.eqb a b = (a = b) := rfl
theorem std_eqs (a) (b) : std.eqs a b = (a = b) := rfl
theorem std_eqv (a) (b) : std.eqv a b = (a = b) := rfl
theorem std_cat (n f g) : std.cat n f g = catS n f g := rfl
theorem std_lst (l) : std.lst l = lstS l := rfl
theorem std_rset (f i off l) : std.rset f i off l = rsetS f i off l := rfl
theorem std_rcopy (f lo m g) : std.rcopy f lo m g = rcopyS f lo m g := rfl
theorem std_shift (f lo) : std.shift f lo = shiftS f lo := rfl
theorem std_eqr (n k f g) : std.eqr n k f g = eqrS n k f g := rfl
theorem std_strOf (n f) : std.strOf n f = strOfS n f := rfl
theorem std_bytesOf (l) : std.bytesOf l = bytesOfS l := rfl
theorem std_isB (n f) : std.isB n f = isBS n f := rfl
theorem std_mput (M a b n) : std.mput M a b n = mputS M a b n := rfl
theorem std_mget (M a b) : std.mget M a b = mgetS M a b := rfl
theorem std_mlen (M) : std.mlen M = (M.length : Int) := rfl
theorem std_b2i (b) : std.b2i b = (bif b then 1 else 0) := rfl
theorem std_i2b (n) : std.i2b n = (n != 0) := rfl
theorem std_eqm (M M') : std.eqm M M' = (M = M') := rfl
theorem eqv_refl {A : Ar} (hA : A = std) (x : SV) : A.eqv x x := by subst hA; exact rfl
/-- All of these at once. -/
theorem sS : (∀ k a b, std.add k a b = (k.wrap (a + b))) ∧ (∀ k a b, std.sub k a b = (k.wrap (a - b))) ∧ (∀ k a b, std.mul k a b = (k.wrap (a * b))) ∧ (∀ k a b, std.quo k a b = (k.wrap (a.tdiv b))) ∧ (∀ a b, std.rem a b = (a.tmod b)) ∧ (∀ k a b, std.band k a b = (bits .and k a b)) ∧ (∀ k a b, std.bor k a b = (bits .or k a b)) ∧ (∀ k a b, std.bxor k a b = (bits .xor k a b)) ∧ (∀ k a b, std.shl k a b = (k.wrap (a * 2 ^ (min b.toNat k.bits)))) ∧ (∀ k a b, std.shr k a b = (a.fdiv (2 ^ (min b.toNat k.bits)))) ∧ (∀ a b, std.eq a b = (a == b)) ∧ (∀ a b, std.ne a b = (a != b)) ∧ (∀ a b, std.lt a b = (decide (a < b))) ∧ (∀ a b, std.le a b = (decide (a ≤ b))) ∧ (∀ k n, std.conv k n = (k.wrap n)) ∧ (∀ b, std.not b = (!b)) ∧ (∀ a b, std.beq a b = (a == b)) ∧ (∀ a b, std.bne a b = (!(a == b))) ∧ (∀ c p q, std.ite c p q = (bif c then p else q)) ∧ (∀ c d w, std.want c d w = (c && (d == w))) ∧ (∀ a b, std.and2 a b = (a && b)) ∧ (∀ a b, std.sadd a b = (a ++ b)) ∧ (∀ a b, std.seq a b = (a == b)) ∧ (∀ a b, std.sne a b = (!(a == b))) ∧ (∀ a b, std.slt a b = (Op.bytesLess a b)) ∧ (∀ a b, std.sle a b = (Op.bytesLess a b || (a == b))) ∧ (∀ a b, std.sgt a b = (!(Op.bytesLess a b || (a == b)))) ∧ (∀ a b, std.sge a b = (!Op.bytesLess a b)) ∧ (∀ s, std.slen s = ((s.length : Int))) ∧ (∀ s i, std.sget s i = (((s[i.toNat]?.getD 0).toNat : Int))) ∧ (∀ s a b, std.scut s a b = ((s.take b.toNat).drop a.toNat)) ∧ (∀ n, std.ofNat n = ((n : Int))) ∧ (∀ i, std.toNat i = (i.toNat)) ∧ (∀ a b, std.nsub a b = (a - b)) ∧ (∀ a b, std.nadd a b = (a + b)) ∧ (∀ l, std.lenOf l = (l.length)) ∧ (∀ b, std.nz b = (b ≠ 0)) ∧ (∀ b, std.nneg b = (0 ≤ b)) ∧ (∀ i n, std.inb i n = (0 ≤ i ∧ i < (n : Int))) ∧ (∀ a b, std.upto a b = (a ≤ b)) ∧ (∀ a b, std.slt63 a b = (a.length + b.length ≤ 9223372036854775807)) ∧ (∀ n m b, std.grow n m b = (n + m ≤ 9223372036854775807 ∧ (n + m) * b ≤ 140737488355328)) ∧ (∀ c p, std.imp c p = (c = true → p)) ∧ (∀ c p, std.impN c p = (c = false → p)) ∧ (∀ c, std.tr c = (c = true)) ∧ (∀ f, std.tb f = (f ())) ∧ (∀ f, std.ti f = (f ())) ∧ (∀ f, std.ts f = (f ())) ∧ (∀ f, std.tn f = (f ())) ∧ (∀ f, std.tp f = (f ())) ∧ (∀ a b, std.nmin a b = (Nat.min a b)) ∧ (∀ g i n j, std.nset g i n j = (if j = i then n else g j)) ∧ (∀ f i g j, std.fset f i g j = (if j = i then g else f j)) ∧ (∀ a b by_, std.makes a b by_ = (0 ≤ a ∧ a ≤ b ∧ b ≤ 9223372036854775807 ∧ b.toNat * by_ ≤ 140737488355328)) ∧ (∀ b m n, std.room b m n = (0 < n ∧ b + m ≤ n)) ∧ (∀ z by_, std.zeros z by_ = (0 < z ∧ z ≤ 4611686018427387904 ∧ z.toNat * by_ ≤ 140737488355328)) ∧ (∀ b n, std.nilq b n = (b = true → n = 0)) ∧ (∀ b n, std.notq b n = (b = false → n = 0)) ∧ (∀ a b, std.eqi a b = (a = b)) ∧ (∀ a b, std.eqn a b = (a = b)) ∧ (∀ a b, std.eqb a b = (a = b)) ∧ (∀ a b, std.eqs a b = (a = b)) ∧ (∀ a b, std.eqv a b = (a = b)) ∧ (∀ n f g, std.cat n f g = catS n f g) ∧ (∀ l, std.lst l = lstS l) ∧ (∀ f i off l, std.rset f i off l = rsetS f i off l) ∧ (∀ f lo m g, std.rcopy f lo m g = rcopyS f lo m g) ∧ (∀ f lo, std.shift f lo = shiftS f lo) ∧ (∀ n k f g, std.eqr n k f g = eqrS n k f g) ∧ (∀ n f, std.strOf n f = strOfS n f) ∧ (∀ l, std.bytesOf l = bytesOfS l) ∧ (∀ n f, std.isB n f = isBS n f) ∧ (∀ s, std.zOf s = zOfS s) ∧ (∀ k n, zOfS (.int k n) = n) ∧ (∀ k s, std.isI k s = isIS k s) ∧ (∀ k n, isIS k (.int k n)) ∧ (∀ l n, std.getL l n = getAt l n) ∧ (∀ a b, std.nmul a b = a * b) ∧ (∀ s, std.sOf s = sOfS s) ∧ (∀ l, sOfS (.str l) = l) ∧ (∀ s, std.isS s = isSS s) ∧ (∀ l, isSS (.str l)) ∧ (∀ a b, std.fadd a b = (Ieee.double.add a b).getD 0) ∧ (∀ a b, std.fsub a b = (Ieee.double.sub a b).getD 0) ∧ (∀ a b, std.fav a b = ((Ieee.double.add a b).isSome = true)) ∧ (∀ a b, std.fsv a b = ((Ieee.double.sub a b).isSome = true)) ∧ (∀ a b, std.feq a b = (Ieee.double.order a b == some .eq)) ∧ (∀ a b, std.fne a b = (Ieee.double.order a b != some .eq)) ∧ (∀ a b, std.flt a b = (Ieee.double.order a b == some .lt)) ∧ (∀ a b, std.fle a b = (Ieee.double.order a b == some .lt || Ieee.double.order a b == some .eq)) ∧ (∀ a b, std.fgt a b = (Ieee.double.order a b == some .gt)) ∧ (∀ a b, std.fge a b = (Ieee.double.order a b == some .gt || Ieee.double.order a b == some .eq)) ∧ (∀ n, std.fOf n = FloatKind.f64.nearest n) ∧ (∀ b, std.fTo b = ((FloatKind.f64.decode b).toInt .zero).getD 0) ∧ (∀ k b, std.fTv k b = ∃ n, (FloatKind.f64.decode b).toInt .zero = some n ∧ k.min ≤ n ∧ n ≤ k.max) ∧ (∀ M a b n, std.mput M a b n = mputS M a b n) ∧ (∀ M a b, std.mget M a b = mgetS M a b) ∧ (∀ M, std.mlen M = (M.length : Int)) ∧ (∀ b, std.b2i b = (bif b then 1 else 0)) ∧ (∀ n, std.i2b n = (n != 0)) ∧ (∀ M M', std.eqm M M' = (M = M')) := ⟨@std_add, @std_sub, @std_mul, @std_quo, @std_rem, @std_band, @std_bor, @std_bxor, @std_shl, @std_shr, @std_eq, @std_ne, @std_lt, @std_le, @std_conv, @std_not, @std_beq, @std_bne, @std_ite, @std_want, @std_and2, @std_sadd, @std_seq, @std_sne, @std_slt, @std_sle, @std_sgt, @std_sge, @std_slen, @std_sget, @std_scut, @std_ofNat, @std_toNat, @std_nsub, @std_nadd, @std_lenOf, @std_nz, @std_nneg, @std_inb, @std_upto, @std_slt63, @std_grow, @std_imp, @std_impN, @std_tr, @std_tb, @std_ti, @std_ts, @std_tn, @std_tp, @std_nmin, @std_nset, @std_fset, @std_makes, @std_room, @std_zeros, @std_nilq, @std_notq, @std_eqi, @std_eqn, @std_eqb, @std_eqs, @std_eqv, @std_cat, @std_lst, @std_rset, @std_rcopy, @std_shift, @std_eqr, @std_strOf, @std_bytesOf, @std_isB, @std_zOf, @zOf_int, @std_isI, @isI_int, @std_getL, @std_nmul, @std_sOf, @sOf_str, @std_isS, @isS_str, @std_fadd, @std_fsub, @std_fav, @std_fsv, @std_feq, @std_fne, @std_flt, @std_fle, @std_fgt, @std_fge, @std_fOf, @std_fTo, @std_fTv, @std_mput, @std_mget, @std_mlen, @std_b2i, @std_i2b, @std_eqm⟩
end Go.Vd

