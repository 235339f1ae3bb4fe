/- The shelf's contracts that this claim leans on, laid at this program. -/
import Derived.Shelf.Strings.Builder1
import Derived.Shelf.Strings.Builder2
import Derived.Shelf.Strings.BuilderF
import Derived.Shelf.Strings.BuilderK
import Derived.Shelf.Strings.Builder2Cap
import Derived.Shelf.Strconv.Itoa0
import Derived.Shelf.Strconv.Itoa1
import Derived.Shelf.LaysM
import Derived.Shelf.Strconv.Itoa2
import Derived.Shelf.Strconv.Itoa3
import Derived.Shelf.Strings.Prefix
import Derived.Shelf.Bits.Mul64
import Derived.Shelf.Strings.Repeat
import Derived.Test.YtakcggldilbilaaDoorProg
import Derived.Test.YtakcggldilbilaaDoorVdG3
import Derived.Lib.Walk
import Derived.Lib.ItoaMem
import Derived.WalkKit
import Derived.BigCall
import Derived.BigGuard
import Derived.Laws.RangeString
import Derived.Laws.RangeAny
import Derived.LoopTactic
namespace Go.Proofs
open Go.Shelf
def Tryd.lays170_ren : Go.Shelf.Ren := ⟨fun | 170 => 170 | n => n, fun | 70 => 207 | 3 => 3 | 0 => 0 | 72 => 209 | 37 => 28 | 5 => 5 | n => n, fun | n => n⟩
theorem Tryd.lays170 : Go.Proofs.Lays.n170 Tryd.prog Tryd.lays170_ren := {
  mixed := by kernel_rfl
  f170 := Tryd.func170.trans (congrArg some (by kernel_rfl))
  t0 := Tryd.underlying0
  a0 := Tryd.isAgg0
  z0 := Tryd.sizeOf0
  v0 := Tryd.zeroValue0
  t3 := Tryd.underlying3
  a3 := Tryd.isAgg3
  z3 := Tryd.sizeOf3
  v3 := Tryd.zeroValue3
  t37 := Tryd.underlying28
  a37 := Tryd.isAgg28
  z37 := Tryd.sizeOf28
  v37 := Tryd.zeroValue28
  t70 := Tryd.underlying207
  a70 := Tryd.isAgg207
  z70 := Tryd.sizeOf207
  v70 := Tryd.zeroValue207
  t72 := Tryd.underlying209
  a72 := Tryd.isAgg209
  z72 := Tryd.sizeOf209
  v72 := Tryd.zeroValue209 }
open Go.RowKit in
theorem Tryd.Builder_Len (B b : Nat) (bs : List Value) (w : World) (h : Lib.IsBuilder 209 5 B b bs w) :
    Calls Tryd.prog 170 #[.pointer (some ⟨b, 0, none⟩)] w fun e w' => e = .returned (.int .i64 bs.length) ∧ w' = w := Any.Builder_Len Tryd.lays170 B b bs w h
def Tryd.lays169_ren : Go.Shelf.Ren := ⟨fun | 169 => 171 | n => n, fun | 70 => 207 | 9 => 9 | 0 => 0 | 72 => 209 | 37 => 28 | 127 => 243 | 3 => 3 | 5 => 5 | n => n, fun | n => n⟩
theorem Tryd.lays169 : Go.Proofs.Lays.n169 Tryd.prog Tryd.lays169_ren := {
  mixed := by kernel_rfl
  f169 := Tryd.func171.trans (congrArg some (by kernel_rfl))
  t0 := Tryd.underlying0
  a0 := Tryd.isAgg0
  z0 := Tryd.sizeOf0
  v0 := Tryd.zeroValue0
  t3 := Tryd.underlying3
  a3 := Tryd.isAgg3
  z3 := Tryd.sizeOf3
  v3 := Tryd.zeroValue3
  t9 := Tryd.underlying9
  a9 := Tryd.isAgg9
  z9 := Tryd.sizeOf9
  v9 := Tryd.zeroValue9
  t37 := Tryd.underlying28
  a37 := Tryd.isAgg28
  z37 := Tryd.sizeOf28
  v37 := Tryd.zeroValue28
  t70 := Tryd.underlying207
  a70 := Tryd.isAgg207
  z70 := Tryd.sizeOf207
  v70 := Tryd.zeroValue207
  t72 := Tryd.underlying209
  a72 := Tryd.isAgg209
  z72 := Tryd.sizeOf209
  v72 := Tryd.zeroValue209
  t127 := Tryd.underlying243
  a127 := Tryd.isAgg243
  z127 := Tryd.sizeOf243
  v127 := Tryd.zeroValue243 }
theorem Tryd.Builder_Extra_169 : Builder.Extra Tryd.prog Tryd.lays169_ren := {
  sizeBuilder := by kernel_rfl
  liesBuilder := by kernel_rfl
  t5 := Tryd.underlying5
  a5 := Tryd.isAgg5
  z5 := Tryd.sizeOf5
  v5 := Tryd.zeroValue5
  infoByte := by kernel_rfl
  cellsByte := by kernel_rfl
  sizeByte := by kernel_rfl
  neB5 := by decide }
open Go.RowKit in
theorem Tryd.Builder_String (B b : Nat) (l : List UInt8) (w : World) (h : Lib.IsBuilder 209 5 B b (Lib.byteCells l) w) (h0 : l ≠ []) :
    Calls Tryd.prog 171 #[.pointer (some ⟨b, 0, none⟩)] w fun e w' => e = .returned (.string ⟨l.toArray⟩) ∧ Below B w w' := Any.Builder_String Tryd.lays169 Tryd.Builder_Extra_169 B b l w h h0
open Go.RowKit in
theorem Tryd.Builder_String_empty (B b : Nat) (w : World) (h : Lib.IsBuilder 209 5 B b [] w) (hBw : B ≤ w.heap.size) :
    Calls Tryd.prog 171 #[.pointer (some ⟨b, 0, none⟩)] w fun e w' => e = .returned (.string ⟨#[]⟩) ∧ Below B w w' := Any.Builder_String_empty Tryd.lays169 Tryd.Builder_Extra_169 B b w h hBw
open Go.RowKit in
theorem Tryd.Builder_String_any (B b : Nat) (l : List UInt8) (w : World) (h : Lib.IsBuilder 209 5 B b (Lib.byteCells l) w) (hBw : B ≤ w.heap.size) :
    Calls Tryd.prog 171 #[.pointer (some ⟨b, 0, none⟩)] w fun e w' => e = .returned (.string ⟨l.toArray⟩) ∧ Below B w w' := Any.Builder_String_any Tryd.lays169 Tryd.Builder_Extra_169 B b l w h hBw
def Tryd.lays241_ren : Go.Shelf.Ren := ⟨fun | 241 => 196 | 277 => 206 | n => n, fun | 70 => 207 | 3 => 3 | 0 => 0 | 72 => 209 | 37 => 28 | 5 => 5 | n => n, fun | n => n⟩
theorem Tryd.lays241 : Go.Proofs.Lays.n241 Tryd.prog Tryd.lays241_ren := {
  mixed := by kernel_rfl
  f241 := Tryd.func196.trans (congrArg some (by kernel_rfl))
  f277 := Tryd.func206.trans (congrArg some (by kernel_rfl))
  t0 := Tryd.underlying0
  a0 := Tryd.isAgg0
  z0 := Tryd.sizeOf0
  v0 := Tryd.zeroValue0
  t3 := Tryd.underlying3
  a3 := Tryd.isAgg3
  z3 := Tryd.sizeOf3
  v3 := Tryd.zeroValue3
  t37 := Tryd.underlying28
  a37 := Tryd.isAgg28
  z37 := Tryd.sizeOf28
  v37 := Tryd.zeroValue28
  t70 := Tryd.underlying207
  a70 := Tryd.isAgg207
  z70 := Tryd.sizeOf207
  v70 := Tryd.zeroValue207
  t72 := Tryd.underlying209
  a72 := Tryd.isAgg209
  z72 := Tryd.sizeOf209
  v72 := Tryd.zeroValue209 }
theorem Tryd.Builder_Extra_241 : Builder.Extra Tryd.prog Tryd.lays241_ren := {
  sizeBuilder := by kernel_rfl
  liesBuilder := by kernel_rfl
  t5 := Tryd.underlying5
  a5 := Tryd.isAgg5
  z5 := Tryd.sizeOf5
  v5 := Tryd.zeroValue5
  infoByte := by kernel_rfl
  cellsByte := by kernel_rfl
  sizeByte := by kernel_rfl
  neB5 := by decide }
open Go.RowKit in
theorem Tryd.Builder_grow_fresh (B b n : Nat) (w : World) (hB : B ≤ b) (hbk : w.heap[b]? = some (.cells #[.pointer (some ⟨b, 0, none⟩), .slice none 0 0] 209 (0, 0))) (hBw : B ≤ w.heap.size) (hn : n ≤ 281474976710656) :
    Calls Tryd.prog 196 #[.pointer (some ⟨b, 0, none⟩), .int .i64 n] w fun e w' => e = .returned (.tuple #[]) ∧ (Lib.BuilderAt 209 5 B b (.pointer (some ⟨b, 0, none⟩)) [] w' ∧ Below B w w') := Any.Builder_grow_fresh Tryd.lays241 Tryd.Builder_Extra_241 B b n w hB hbk hBw hn
def Tryd.lays165_ren : Go.Shelf.Ren := ⟨fun | 165 => 168 | 240 => 195 | 241 => 196 | 276 => 205 | 277 => 206 | n => n, fun | 70 => 207 | 3 => 3 | 0 => 0 | 4 => 4 | 9 => 9 | 20 => 20 | 72 => 209 | 37 => 28 | 164 => 251 | 5 => 5 | n => n, fun | n => n⟩
theorem Tryd.lays165 : Go.Proofs.Lays.n165 Tryd.prog Tryd.lays165_ren := {
  mixed := by kernel_rfl
  f165 := Tryd.func168.trans (congrArg some (by kernel_rfl))
  f240 := Tryd.func195.trans (congrArg some (by kernel_rfl))
  f241 := Tryd.func196.trans (congrArg some (by kernel_rfl))
  f276 := Tryd.func205.trans (congrArg some (by kernel_rfl))
  f277 := Tryd.func206.trans (congrArg some (by kernel_rfl))
  t0 := Tryd.underlying0
  a0 := Tryd.isAgg0
  z0 := Tryd.sizeOf0
  v0 := Tryd.zeroValue0
  t3 := Tryd.underlying3
  a3 := Tryd.isAgg3
  z3 := Tryd.sizeOf3
  v3 := Tryd.zeroValue3
  t4 := Tryd.underlying4
  a4 := Tryd.isAgg4
  z4 := Tryd.sizeOf4
  v4 := Tryd.zeroValue4
  t9 := Tryd.underlying9
  a9 := Tryd.isAgg9
  z9 := Tryd.sizeOf9
  v9 := Tryd.zeroValue9
  t20 := Tryd.underlying20
  a20 := Tryd.isAgg20
  z20 := Tryd.sizeOf20
  v20 := Tryd.zeroValue20
  t37 := Tryd.underlying28
  a37 := Tryd.isAgg28
  z37 := Tryd.sizeOf28
  v37 := Tryd.zeroValue28
  t70 := Tryd.underlying207
  a70 := Tryd.isAgg207
  z70 := Tryd.sizeOf207
  v70 := Tryd.zeroValue207
  t72 := Tryd.underlying209
  a72 := Tryd.isAgg209
  z72 := Tryd.sizeOf209
  v72 := Tryd.zeroValue209
  t164 := Tryd.underlying251
  a164 := Tryd.isAgg251
  z164 := Tryd.sizeOf251
  v164 := Tryd.zeroValue251 }
theorem Tryd.Builder_Extra_165 : Builder.Extra Tryd.prog Tryd.lays165_ren := {
  sizeBuilder := by kernel_rfl
  liesBuilder := by kernel_rfl
  t5 := Tryd.underlying5
  a5 := Tryd.isAgg5
  z5 := Tryd.sizeOf5
  v5 := Tryd.zeroValue5
  infoByte := by kernel_rfl
  cellsByte := by kernel_rfl
  sizeByte := by kernel_rfl
  neB5 := by decide }
open Go.RowKit in
theorem Tryd.Builder_Grow_fresh (B b n : Nat) (w : World) (hB : B ≤ b) (hbk : w.heap[b]? = some (.cells #[.pointer none, .slice none 0 0] 209 (0, 0))) (hBw : B ≤ w.heap.size) (hn : n ≤ 281474976710656) :
    Calls Tryd.prog 168 #[.pointer (some ⟨b, 0, none⟩), .int .i64 n] w fun e w' => e = .returned (.tuple #[]) ∧ (Lib.BuilderAt 209 5 B b (.pointer (some ⟨b, 0, none⟩)) [] w' ∧ Below B w w') := Any.Builder_Grow_fresh Tryd.lays165 Tryd.Builder_Extra_165 B b n w hB hbk hBw hn
open Go.RowKit in
theorem Tryd.Builder_Len_f (B b : Nat) (bs : List Value) (w : World) (h : Lib.IsBuilderF 209 5 B b bs w) :
    Calls Tryd.prog 170 #[.pointer (some ⟨b, 0, none⟩)] w fun e w' => e = .returned (.int .i64 bs.length) ∧ w' = w := Any.Builder_Len_f Tryd.lays170 B b bs w h
open Go.RowKit in
theorem Tryd.Builder_String_f (B b : Nat) (l : List UInt8) (w : World) (h : Lib.IsBuilderF 209 5 B b (Lib.byteCells l) w) (h0 : l ≠ []) :
    Calls Tryd.prog 171 #[.pointer (some ⟨b, 0, none⟩)] w fun e w' => e = .returned (.string ⟨l.toArray⟩) ∧ (Lib.IsBuilderF 209 5 B b (Lib.byteCells l) w' ∧ Below B w w') := Any.Builder_String_f Tryd.lays169 Tryd.Builder_Extra_169 B b l w h h0
open Go.RowKit in
theorem Tryd.Builder_String_empty_f (B b : Nat) (w : World) (h : Lib.IsBuilderF 209 5 B b [] w) (hBw : B ≤ w.heap.size) :
    Calls Tryd.prog 171 #[.pointer (some ⟨b, 0, none⟩)] w fun e w' => e = .returned (.string ⟨#[]⟩) ∧ (Lib.IsBuilderF 209 5 B b [] w' ∧ Below B w w') := Any.Builder_String_empty_f Tryd.lays169 Tryd.Builder_Extra_169 B b w h hBw
open Go.RowKit in
theorem Tryd.Builder_String_any_f (B b : Nat) (l : List UInt8) (w : World) (h : Lib.IsBuilderF 209 5 B b (Lib.byteCells l) w) (hBw : B ≤ w.heap.size) :
    Calls Tryd.prog 171 #[.pointer (some ⟨b, 0, none⟩)] w fun e w' => e = .returned (.string ⟨l.toArray⟩) ∧ (Lib.IsBuilderF 209 5 B b (Lib.byteCells l) w' ∧ Below B w w') := Any.Builder_String_any_f Tryd.lays169 Tryd.Builder_Extra_169 B b l w h hBw
open Go.RowKit in
theorem Tryd.Builder_String_k (B b : Nat) (l : List UInt8) (w : World) (h : Lib.IsBuilderF 209 5 B b (Lib.byteCells l) w) (h0 : l ≠ []) :
    Calls Tryd.prog 171 #[.pointer (some ⟨b, 0, none⟩)] w fun e w' => e = .returned (.string ⟨l.toArray⟩) ∧ (Lib.IsBuilderF 209 5 B b (Lib.byteCells l) w' ∧ Below B w w' ∧ Lib.OthersKept 5 (some b) w w') := Any.Builder_String_k Tryd.lays169 Tryd.Builder_Extra_169 B b l w h h0
open Go.RowKit in
theorem Tryd.Builder_String_empty_k (B b : Nat) (w : World) (h : Lib.IsBuilderF 209 5 B b [] w) (hBw : B ≤ w.heap.size) :
    Calls Tryd.prog 171 #[.pointer (some ⟨b, 0, none⟩)] w fun e w' => e = .returned (.string ⟨#[]⟩) ∧ (Lib.IsBuilderF 209 5 B b [] w' ∧ Below B w w' ∧ Lib.OthersKept 5 (some b) w w') := Any.Builder_String_empty_k Tryd.lays169 Tryd.Builder_Extra_169 B b w h hBw
open Go.RowKit in
theorem Tryd.Builder_String_any_k (B b : Nat) (l : List UInt8) (w : World) (h : Lib.IsBuilderF 209 5 B b (Lib.byteCells l) w) (hBw : B ≤ w.heap.size) :
    Calls Tryd.prog 171 #[.pointer (some ⟨b, 0, none⟩)] w fun e w' => e = .returned (.string ⟨l.toArray⟩) ∧ (Lib.IsBuilderF 209 5 B b (Lib.byteCells l) w' ∧ Below B w w' ∧ Lib.OthersKept 5 (some b) w w') := Any.Builder_String_any_k Tryd.lays169 Tryd.Builder_Extra_169 B b l w h hBw
open Go.RowKit in
theorem Tryd.Builder_grow_fresh_cap (B b n : Nat) (w : World) (hB : B ≤ b) (hbk : w.heap[b]? = some (.cells #[.pointer (some ⟨b, 0, none⟩), .slice none 0 0] 209 (0, 0))) (hBw : B ≤ w.heap.size) (hn : n ≤ 281474976710656) :
    Calls Tryd.prog 196 #[.pointer (some ⟨b, 0, none⟩), .int .i64 n] w fun e w' => e = .returned (.tuple #[]) ∧ (Lib.BuilderAt 209 5 B b (.pointer (some ⟨b, 0, none⟩)) [] w' ∧ Below B w w') ∧ ∃ p cap, w'.cell? ⟨b, 1, none⟩ = some (.slice p 0 cap) ∧ n ≤ cap := Any.Builder_grow_fresh_cap Tryd.lays241 Tryd.Builder_Extra_241 B b n w hB hbk hBw hn
open Go.RowKit in
theorem Tryd.Builder_Grow_fresh_cap (B b n : Nat) (w : World) (hB : B ≤ b) (hbk : w.heap[b]? = some (.cells #[.pointer none, .slice none 0 0] 209 (0, 0))) (hBw : B ≤ w.heap.size) (hn : n ≤ 281474976710656) :
    Calls Tryd.prog 168 #[.pointer (some ⟨b, 0, none⟩), .int .i64 n] w fun e w' => e = .returned (.tuple #[]) ∧ (Lib.BuilderAt 209 5 B b (.pointer (some ⟨b, 0, none⟩)) [] w' ∧ Below B w w') ∧ ∃ p cap, w'.cell? ⟨b, 1, none⟩ = some (.slice p 0 cap) ∧ n ≤ cap := Any.Builder_Grow_fresh_cap Tryd.lays165 Tryd.Builder_Extra_165 B b n w hB hbk hBw hn
def Tryd.lays129_ren : Go.Shelf.Ren := ⟨fun | 129 => 201 | n => n, fun | 53 => 49 | 3 => 3 | 4 => 4 | 46 => 203 | 5 => 5 | 9 => 9 | n => n, fun | n => n⟩
theorem Tryd.lays129 : Go.Proofs.Lays.n129 Tryd.prog Tryd.lays129_ren := {
  mixed := by kernel_rfl
  f129 := Tryd.func201.trans (congrArg some (by kernel_rfl))
  t3 := Tryd.underlying3
  a3 := Tryd.isAgg3
  z3 := Tryd.sizeOf3
  v3 := Tryd.zeroValue3
  t4 := Tryd.underlying4
  a4 := Tryd.isAgg4
  z4 := Tryd.sizeOf4
  v4 := Tryd.zeroValue4
  t5 := Tryd.underlying5
  a5 := Tryd.isAgg5
  z5 := Tryd.sizeOf5
  v5 := Tryd.zeroValue5
  t9 := Tryd.underlying9
  a9 := Tryd.isAgg9
  z9 := Tryd.sizeOf9
  v9 := Tryd.zeroValue9
  t46 := Tryd.underlying203
  a46 := Tryd.isAgg203
  z46 := Tryd.sizeOf203
  v46 := Tryd.zeroValue203
  t53 := Tryd.underlying49
  a53 := Tryd.isAgg49
  z53 := Tryd.sizeOf49
  v53 := Tryd.zeroValue49 }
theorem Tryd.bits_Len64 (x : Int) (w : World) (h0 : 0 ≤ x) (h1 : x ≤ 18446744073709551615) :
    Calls Tryd.prog 201 #[.int .u64 x] w fun e w' => e = .returned (.int .i64 (Lib.bitLen x.toNat)) ∧ w' = w := Any.bits_Len64 Tryd.lays129 x w h0 h1
def Tryd.lays317_ren : Go.Shelf.Ren := ⟨fun | 317 => 200 | n => n, fun | 3 => 3 | 46 => 203 | n => n, fun | n => n⟩
theorem Tryd.lays317 : Go.Proofs.Lays.n317 Tryd.prog Tryd.lays317_ren := {
  mixed := by kernel_rfl
  f317 := Tryd.func200.trans (congrArg some (by kernel_rfl))
  t3 := Tryd.underlying3
  a3 := Tryd.isAgg3
  z3 := Tryd.sizeOf3
  v3 := Tryd.zeroValue3
  t46 := Tryd.underlying203
  a46 := Tryd.isAgg203
  z46 := Tryd.sizeOf203
  v46 := Tryd.zeroValue203 }
open Go.Lib in
theorem Tryd.internal_strconv_log10Pow2 (x : Nat) (h : x ≤ 64) (w : World) :
    Calls Tryd.prog 200 #[.int .i64 x] w fun e w' => e = .returned (.int .i64 (Lib.l10 x)) ∧ w' = w := Any.internal_strconv_log10Pow2 Tryd.lays317 x h w
def Tryd.lays318_ren : Go.Shelf.Ren := ⟨fun | 318 => 202 | n => n, fun | 3 => 3 | 4 => 4 | n => n, fun | n => n⟩
theorem Tryd.lays318 : Go.Proofs.Lays.n318 Tryd.prog Tryd.lays318_ren := {
  mixed := by kernel_rfl
  f318 := Tryd.func202.trans (congrArg some (by kernel_rfl))
  t3 := Tryd.underlying3
  a3 := Tryd.isAgg3
  z3 := Tryd.sizeOf3
  v3 := Tryd.zeroValue3
  t4 := Tryd.underlying4
  a4 := Tryd.isAgg4
  z4 := Tryd.sizeOf4
  v4 := Tryd.zeroValue4 }
open Go.Lib in
theorem Tryd.internal_strconv_bool2_int (b : Bool) (w : World) :
    Calls Tryd.prog 202 #[.bool b] w fun e w' => e = .returned (.int .i64 (if b then 1 else 0)) ∧ w' = w := Any.internal_strconv_bool2_int Tryd.lays318 b w
def Tryd.lays283_ren : Go.Shelf.Ren := ⟨fun | 283 => 188 | n => n, fun | 3 => 3 | 9 => 9 | 4 => 4 | n => n, fun | n => n⟩
theorem Tryd.lays283 : Go.Proofs.Lays.n283 Tryd.prog Tryd.lays283_ren := {
  mixed := by kernel_rfl
  f283 := Tryd.func188.trans (congrArg some (by kernel_rfl))
  t3 := Tryd.underlying3
  a3 := Tryd.isAgg3
  z3 := Tryd.sizeOf3
  v3 := Tryd.zeroValue3
  t4 := Tryd.underlying4
  a4 := Tryd.isAgg4
  z4 := Tryd.sizeOf4
  v4 := Tryd.zeroValue4
  t9 := Tryd.underlying9
  a9 := Tryd.isAgg9
  z9 := Tryd.sizeOf9
  v9 := Tryd.zeroValue9 }
open Go.Lib in
theorem Tryd.internal_strconv_small (i : Nat) (h : i < 100) (w : World) :
    Calls Tryd.prog 188 #[.int .i64 i] w fun e w' => e = .returned (.string ⟨(Lib.decDigits i).toArray⟩) ∧ w' = w := Any.internal_strconv_small Tryd.lays283 i h w
def Tryd.laysM284_ren : Go.Shelf.Ren := ⟨fun | 284 => 189 | 129 => 201 | 317 => 200 | 318 => 202 | n => n, fun | 53 => 49 | 3 => 3 | 212 => 248 | 0 => 0 | 4 => 4 | 46 => 203 | 5 => 5 | 9 => 9 | n => n, fun | 17 => 2 | n => n⟩
theorem Tryd.laysM284 : Go.Proofs.LaysM.n284 Tryd.prog Tryd.laysM284_ren := {
  mixed := by kernel_rfl
  f129 := Tryd.func201.trans (congrArg some (by kernel_rfl))
  f284 := Tryd.func189.trans (congrArg some (by kernel_rfl))
  f317 := Tryd.func200.trans (congrArg some (by kernel_rfl))
  f318 := Tryd.func202.trans (congrArg some (by kernel_rfl))
  t0 := Tryd.underlying0
  a0 := Tryd.isAgg0
  z0 := Tryd.sizeOf0
  v0 := Tryd.zeroValue0
  t3 := Tryd.underlying3
  a3 := Tryd.isAgg3
  z3 := Tryd.sizeOf3
  v3 := Tryd.zeroValue3
  t4 := Tryd.underlying4
  a4 := Tryd.isAgg4
  z4 := Tryd.sizeOf4
  v4 := Tryd.zeroValue4
  t5 := Tryd.underlying5
  a5 := Tryd.isAgg5
  z5 := Tryd.sizeOf5
  v5 := Tryd.zeroValue5
  t9 := Tryd.underlying9
  a9 := Tryd.isAgg9
  z9 := Tryd.sizeOf9
  v9 := Tryd.zeroValue9
  t46 := Tryd.underlying203
  a46 := Tryd.isAgg203
  z46 := Tryd.sizeOf203
  v46 := Tryd.zeroValue203
  t53 := Tryd.underlying49
  a53 := Tryd.isAgg49
  z53 := Tryd.sizeOf49
  v53 := Tryd.zeroValue49
  t212 := Tryd.underlying248
  a212 := Tryd.isAgg248
  z212 := Tryd.sizeOf248
  v212 := Tryd.zeroValue248
  g17 := by kernel_rfl
  i0 := by kernel_rfl
  i3 := by kernel_rfl
  i4 := by kernel_rfl
  i5 := by kernel_rfl
  i9 := by kernel_rfl
  i46 := by kernel_rfl
  i53 := by kernel_rfl
  i212 := by kernel_rfl
  m17 := by kernel_rfl }
open Go.Lib in
theorem Tryd.internal_strconv_numDigits (u : Nat) (h1 : 1 ≤ u) (h2 : u < 18446744073709551616) (w : World) (htab : Lib.TabIs Tryd.prog w "internal/strconv.uint64pow10" .u64 Lib.pow10Tab) :
    Calls Tryd.prog 189 #[.int .u64 u] w fun e w' => e = .returned (.int .i64 (Lib.nDigits u)) ∧ w' = w := Any.internal_strconv_numDigits Tryd.laysM284 u h1 h2 w htab
def Tryd.lays285_ren : Go.Shelf.Ren := ⟨fun | 285 => 190 | n => n, fun | 37 => 28 | 53 => 49 | 3 => 3 | 4 => 4 | 51 => 50 | 9 => 9 | 5 => 5 | 0 => 0 | n => n, fun | n => n⟩
theorem Tryd.lays285 : Go.Proofs.Lays.n285 Tryd.prog Tryd.lays285_ren := {
  mixed := by kernel_rfl
  f285 := Tryd.func190.trans (congrArg some (by kernel_rfl))
  t0 := Tryd.underlying0
  a0 := Tryd.isAgg0
  z0 := Tryd.sizeOf0
  v0 := Tryd.zeroValue0
  t3 := Tryd.underlying3
  a3 := Tryd.isAgg3
  z3 := Tryd.sizeOf3
  v3 := Tryd.zeroValue3
  t4 := Tryd.underlying4
  a4 := Tryd.isAgg4
  z4 := Tryd.sizeOf4
  v4 := Tryd.zeroValue4
  t5 := Tryd.underlying5
  a5 := Tryd.isAgg5
  z5 := Tryd.sizeOf5
  v5 := Tryd.zeroValue5
  t9 := Tryd.underlying9
  a9 := Tryd.isAgg9
  z9 := Tryd.sizeOf9
  v9 := Tryd.zeroValue9
  t37 := Tryd.underlying28
  a37 := Tryd.isAgg28
  z37 := Tryd.sizeOf28
  v37 := Tryd.zeroValue28
  t51 := Tryd.underlying50
  a51 := Tryd.isAgg50
  z51 := Tryd.sizeOf50
  v51 := Tryd.zeroValue50
  t53 := Tryd.underlying49
  a53 := Tryd.isAgg49
  z53 := Tryd.sizeOf49
  v53 := Tryd.zeroValue49 }
open Go.RowKit Go.Sort Go.Lib in
theorem Tryd.internal_strconv_formatBase10 (blk off cap : Nat) (u : Nat) (d : Array UInt8) (w : World) (hH : Holds (fun (b : UInt8) => Value.int .u8 (b.toNat : Int)) w blk off d) (hu : u < 10 ^ d.size) (hu64 : u < 18446744073709551616) (hsz : d.size < 4611686018427387904) :
    Calls Tryd.prog 190 #[.slice (some ⟨blk, off, none⟩) d.size cap, .int .u64 u] w fun e w' =>
      e = .returned (.tuple #[]) ∧ ∃ (n v' : Nat) (dk : Array UInt8), w' = (putRow (fun (b : UInt8) => Value.int .u8 (b.toNat : Int)) w blk off dk).drewN n ∧ FmtInv d.size u 0 v' dk := Any.internal_strconv_formatBase10 Tryd.lays285 blk off cap u d w hH hu hu64 hsz
def Tryd.laysM246_ren : Go.Shelf.Ren := ⟨fun | 246 => 173 | 283 => 188 | 284 => 189 | 285 => 190 | 286 => 191 | 129 => 201 | 317 => 200 | 318 => 202 | 319 => 203 | 320 => 204 | 337 => 208 | 338 => 209 | n => n, fun | 2 => 2 | 3 => 3 | 9 => 9 | 4 => 4 | 171 => 234 | 0 => 0 | 53 => 49 | 37 => 28 | 5 => 5 | 173 => 237 | 212 => 248 | 51 => 50 | 20 => 20 | 213 => 249 | 46 => 203 | 232 => 256 | 233 => 257 | n => n, fun | 17 => 2 | 18 => 4 | 19 => 5 | n => n⟩
theorem Tryd.laysM246 : Go.Proofs.LaysM.n246 Tryd.prog Tryd.laysM246_ren := {
  mixed := by kernel_rfl
  f129 := Tryd.func201.trans (congrArg some (by kernel_rfl))
  f246 := Tryd.func173.trans (congrArg some (by kernel_rfl))
  f283 := Tryd.func188.trans (congrArg some (by kernel_rfl))
  f284 := Tryd.func189.trans (congrArg some (by kernel_rfl))
  f285 := Tryd.func190.trans (congrArg some (by kernel_rfl))
  f286 := Tryd.func191.trans (congrArg some (by kernel_rfl))
  f317 := Tryd.func200.trans (congrArg some (by kernel_rfl))
  f318 := Tryd.func202.trans (congrArg some (by kernel_rfl))
  f319 := Tryd.func203.trans (congrArg some (by kernel_rfl))
  f320 := Tryd.func204.trans (congrArg some (by kernel_rfl))
  f337 := Tryd.func208.trans (congrArg some (by kernel_rfl))
  f338 := Tryd.func209.trans (congrArg some (by kernel_rfl))
  t0 := Tryd.underlying0
  a0 := Tryd.isAgg0
  z0 := Tryd.sizeOf0
  v0 := Tryd.zeroValue0
  t2 := Tryd.underlying2
  a2 := Tryd.isAgg2
  z2 := Tryd.sizeOf2
  v2 := Tryd.zeroValue2
  t3 := Tryd.underlying3
  a3 := Tryd.isAgg3
  z3 := Tryd.sizeOf3
  v3 := Tryd.zeroValue3
  t4 := Tryd.underlying4
  a4 := Tryd.isAgg4
  z4 := Tryd.sizeOf4
  v4 := Tryd.zeroValue4
  t5 := Tryd.underlying5
  a5 := Tryd.isAgg5
  z5 := Tryd.sizeOf5
  v5 := Tryd.zeroValue5
  t9 := Tryd.underlying9
  a9 := Tryd.isAgg9
  z9 := Tryd.sizeOf9
  v9 := Tryd.zeroValue9
  t20 := Tryd.underlying20
  a20 := Tryd.isAgg20
  z20 := Tryd.sizeOf20
  v20 := Tryd.zeroValue20
  t37 := Tryd.underlying28
  a37 := Tryd.isAgg28
  z37 := Tryd.sizeOf28
  v37 := Tryd.zeroValue28
  t46 := Tryd.underlying203
  a46 := Tryd.isAgg203
  z46 := Tryd.sizeOf203
  v46 := Tryd.zeroValue203
  t51 := Tryd.underlying50
  a51 := Tryd.isAgg50
  z51 := Tryd.sizeOf50
  v51 := Tryd.zeroValue50
  t53 := Tryd.underlying49
  a53 := Tryd.isAgg49
  z53 := Tryd.sizeOf49
  v53 := Tryd.zeroValue49
  t171 := Tryd.underlying234
  a171 := Tryd.isAgg234
  z171 := Tryd.sizeOf234
  v171 := Tryd.zeroValue234
  t173 := Tryd.underlying237
  a173 := Tryd.isAgg237
  z173 := Tryd.sizeOf237
  v173 := Tryd.zeroValue237
  t212 := Tryd.underlying248
  a212 := Tryd.isAgg248
  z212 := Tryd.sizeOf248
  v212 := Tryd.zeroValue248
  t213 := Tryd.underlying249
  a213 := Tryd.isAgg249
  z213 := Tryd.sizeOf249
  t232 := Tryd.underlying256
  a232 := Tryd.isAgg256
  z232 := Tryd.sizeOf256
  v232 := Tryd.zeroValue256
  t233 := Tryd.underlying257
  a233 := Tryd.isAgg257
  z233 := Tryd.sizeOf257
  v233 := Tryd.zeroValue257
  g17 := by kernel_rfl
  g18 := by kernel_rfl
  g19 := by kernel_rfl
  i0 := by kernel_rfl
  i2 := by kernel_rfl
  i3 := by kernel_rfl
  i4 := by kernel_rfl
  i5 := by kernel_rfl
  i9 := by kernel_rfl
  i20 := by kernel_rfl
  i37 := by kernel_rfl
  i46 := by kernel_rfl
  i51 := by kernel_rfl
  i53 := by kernel_rfl
  i171 := by kernel_rfl
  i173 := by kernel_rfl
  i212 := by kernel_rfl
  i232 := by kernel_rfl
  i233 := by kernel_rfl
  m17 := by kernel_rfl
  m18 := by kernel_rfl
  m19 := by kernel_rfl }
open Go.RowKit Go.Sort Go.Lib in
theorem Tryd.internal_strconv_FormatInt_10 (n : Int) (h0 : -9223372036854775808 ≤ n) (h1 : n ≤ 9223372036854775807) (w : World) (htab : Lib.TabIs Tryd.prog w "internal/strconv.uint64pow10" .u64 Lib.pow10Tab) :
    Calls Tryd.prog 173 #[.int .i64 n, .int .i64 10] w fun e w' => e = .returned (.string ⟨(Lib.itoa n).toArray⟩) ∧ ∃ k os, w' = grow (w.drewN k) os := Any.internal_strconv_FormatInt_10 Tryd.laysM246 n h0 h1 w htab
def Tryd.lays246_ren : Go.Shelf.Ren := ⟨fun | 246 => 173 | 283 => 188 | 284 => 189 | 285 => 190 | 286 => 191 | 129 => 201 | 317 => 200 | 318 => 202 | 319 => 203 | 320 => 204 | 337 => 208 | 338 => 209 | n => n, fun | 2 => 2 | 3 => 3 | 9 => 9 | 4 => 4 | 171 => 234 | 0 => 0 | 53 => 49 | 37 => 28 | 5 => 5 | 173 => 237 | 212 => 248 | 51 => 50 | 20 => 20 | 213 => 249 | 46 => 203 | 232 => 256 | 233 => 257 | n => n, fun | 17 => 2 | 18 => 4 | 19 => 5 | n => n⟩
theorem Tryd.lays246 : Go.Proofs.Lays.n246 Tryd.prog Tryd.lays246_ren := {
  mixed := by kernel_rfl
  f129 := Tryd.func201.trans (congrArg some (by kernel_rfl))
  f246 := Tryd.func173.trans (congrArg some (by kernel_rfl))
  f283 := Tryd.func188.trans (congrArg some (by kernel_rfl))
  f284 := Tryd.func189.trans (congrArg some (by kernel_rfl))
  f285 := Tryd.func190.trans (congrArg some (by kernel_rfl))
  f286 := Tryd.func191.trans (congrArg some (by kernel_rfl))
  f317 := Tryd.func200.trans (congrArg some (by kernel_rfl))
  f318 := Tryd.func202.trans (congrArg some (by kernel_rfl))
  f319 := Tryd.func203.trans (congrArg some (by kernel_rfl))
  f320 := Tryd.func204.trans (congrArg some (by kernel_rfl))
  f337 := Tryd.func208.trans (congrArg some (by kernel_rfl))
  f338 := Tryd.func209.trans (congrArg some (by kernel_rfl))
  t0 := Tryd.underlying0
  a0 := Tryd.isAgg0
  z0 := Tryd.sizeOf0
  v0 := Tryd.zeroValue0
  t2 := Tryd.underlying2
  a2 := Tryd.isAgg2
  z2 := Tryd.sizeOf2
  v2 := Tryd.zeroValue2
  t3 := Tryd.underlying3
  a3 := Tryd.isAgg3
  z3 := Tryd.sizeOf3
  v3 := Tryd.zeroValue3
  t4 := Tryd.underlying4
  a4 := Tryd.isAgg4
  z4 := Tryd.sizeOf4
  v4 := Tryd.zeroValue4
  t5 := Tryd.underlying5
  a5 := Tryd.isAgg5
  z5 := Tryd.sizeOf5
  v5 := Tryd.zeroValue5
  t9 := Tryd.underlying9
  a9 := Tryd.isAgg9
  z9 := Tryd.sizeOf9
  v9 := Tryd.zeroValue9
  t20 := Tryd.underlying20
  a20 := Tryd.isAgg20
  z20 := Tryd.sizeOf20
  v20 := Tryd.zeroValue20
  t37 := Tryd.underlying28
  a37 := Tryd.isAgg28
  z37 := Tryd.sizeOf28
  v37 := Tryd.zeroValue28
  t46 := Tryd.underlying203
  a46 := Tryd.isAgg203
  z46 := Tryd.sizeOf203
  v46 := Tryd.zeroValue203
  t51 := Tryd.underlying50
  a51 := Tryd.isAgg50
  z51 := Tryd.sizeOf50
  v51 := Tryd.zeroValue50
  t53 := Tryd.underlying49
  a53 := Tryd.isAgg49
  z53 := Tryd.sizeOf49
  v53 := Tryd.zeroValue49
  t171 := Tryd.underlying234
  a171 := Tryd.isAgg234
  z171 := Tryd.sizeOf234
  v171 := Tryd.zeroValue234
  t173 := Tryd.underlying237
  a173 := Tryd.isAgg237
  z173 := Tryd.sizeOf237
  v173 := Tryd.zeroValue237
  t212 := Tryd.underlying248
  a212 := Tryd.isAgg248
  z212 := Tryd.sizeOf248
  v212 := Tryd.zeroValue248
  t213 := Tryd.underlying249
  a213 := Tryd.isAgg249
  z213 := Tryd.sizeOf249
  t232 := Tryd.underlying256
  a232 := Tryd.isAgg256
  z232 := Tryd.sizeOf256
  v232 := Tryd.zeroValue256
  t233 := Tryd.underlying257
  a233 := Tryd.isAgg257
  z233 := Tryd.sizeOf257
  v233 := Tryd.zeroValue257
  g17 := by kernel_rfl
  g18 := by kernel_rfl
  g19 := by kernel_rfl }
open Go.RowKit Go.Sort Go.Lib in
theorem Tryd.internal_strconv_FormatInt_10_small (i : Nat) (hi : i < 100) (w : World) :
    Calls Tryd.prog 173 #[.int .i64 i, .int .i64 10] w fun e w' => e = .returned (.string ⟨(Lib.decDigits i).toArray⟩) ∧ w' = w := Any.internal_strconv_FormatInt_10_small Tryd.lays246 i hi w
def Tryd.laysM243_ren : Go.Shelf.Ren := ⟨fun | 243 => 128 | 246 => 173 | 283 => 188 | 284 => 189 | 285 => 190 | 286 => 191 | 129 => 201 | 317 => 200 | 318 => 202 | 319 => 203 | 320 => 204 | 337 => 208 | 338 => 209 | n => n, fun | 3 => 3 | 9 => 9 | 2 => 2 | 4 => 4 | 171 => 234 | 0 => 0 | 53 => 49 | 37 => 28 | 5 => 5 | 173 => 237 | 212 => 248 | 51 => 50 | 20 => 20 | 213 => 249 | 46 => 203 | 232 => 256 | 233 => 257 | n => n, fun | 17 => 2 | 18 => 4 | 19 => 5 | n => n⟩
theorem Tryd.laysM243 : Go.Proofs.LaysM.n243 Tryd.prog Tryd.laysM243_ren := {
  mixed := by kernel_rfl
  f129 := Tryd.func201.trans (congrArg some (by kernel_rfl))
  f243 := Tryd.func128.trans (congrArg some (by kernel_rfl))
  f246 := Tryd.func173.trans (congrArg some (by kernel_rfl))
  f283 := Tryd.func188.trans (congrArg some (by kernel_rfl))
  f284 := Tryd.func189.trans (congrArg some (by kernel_rfl))
  f285 := Tryd.func190.trans (congrArg some (by kernel_rfl))
  f286 := Tryd.func191.trans (congrArg some (by kernel_rfl))
  f317 := Tryd.func200.trans (congrArg some (by kernel_rfl))
  f318 := Tryd.func202.trans (congrArg some (by kernel_rfl))
  f319 := Tryd.func203.trans (congrArg some (by kernel_rfl))
  f320 := Tryd.func204.trans (congrArg some (by kernel_rfl))
  f337 := Tryd.func208.trans (congrArg some (by kernel_rfl))
  f338 := Tryd.func209.trans (congrArg some (by kernel_rfl))
  t0 := Tryd.underlying0
  a0 := Tryd.isAgg0
  z0 := Tryd.sizeOf0
  v0 := Tryd.zeroValue0
  t2 := Tryd.underlying2
  a2 := Tryd.isAgg2
  z2 := Tryd.sizeOf2
  v2 := Tryd.zeroValue2
  t3 := Tryd.underlying3
  a3 := Tryd.isAgg3
  z3 := Tryd.sizeOf3
  v3 := Tryd.zeroValue3
  t4 := Tryd.underlying4
  a4 := Tryd.isAgg4
  z4 := Tryd.sizeOf4
  v4 := Tryd.zeroValue4
  t5 := Tryd.underlying5
  a5 := Tryd.isAgg5
  z5 := Tryd.sizeOf5
  v5 := Tryd.zeroValue5
  t9 := Tryd.underlying9
  a9 := Tryd.isAgg9
  z9 := Tryd.sizeOf9
  v9 := Tryd.zeroValue9
  t20 := Tryd.underlying20
  a20 := Tryd.isAgg20
  z20 := Tryd.sizeOf20
  v20 := Tryd.zeroValue20
  t37 := Tryd.underlying28
  a37 := Tryd.isAgg28
  z37 := Tryd.sizeOf28
  v37 := Tryd.zeroValue28
  t46 := Tryd.underlying203
  a46 := Tryd.isAgg203
  z46 := Tryd.sizeOf203
  v46 := Tryd.zeroValue203
  t51 := Tryd.underlying50
  a51 := Tryd.isAgg50
  z51 := Tryd.sizeOf50
  v51 := Tryd.zeroValue50
  t53 := Tryd.underlying49
  a53 := Tryd.isAgg49
  z53 := Tryd.sizeOf49
  v53 := Tryd.zeroValue49
  t171 := Tryd.underlying234
  a171 := Tryd.isAgg234
  z171 := Tryd.sizeOf234
  v171 := Tryd.zeroValue234
  t173 := Tryd.underlying237
  a173 := Tryd.isAgg237
  z173 := Tryd.sizeOf237
  v173 := Tryd.zeroValue237
  t212 := Tryd.underlying248
  a212 := Tryd.isAgg248
  z212 := Tryd.sizeOf248
  v212 := Tryd.zeroValue248
  t213 := Tryd.underlying249
  a213 := Tryd.isAgg249
  z213 := Tryd.sizeOf249
  t232 := Tryd.underlying256
  a232 := Tryd.isAgg256
  z232 := Tryd.sizeOf256
  v232 := Tryd.zeroValue256
  t233 := Tryd.underlying257
  a233 := Tryd.isAgg257
  z233 := Tryd.sizeOf257
  v233 := Tryd.zeroValue257
  g17 := by kernel_rfl
  g18 := by kernel_rfl
  g19 := by kernel_rfl
  i0 := by kernel_rfl
  i2 := by kernel_rfl
  i3 := by kernel_rfl
  i4 := by kernel_rfl
  i5 := by kernel_rfl
  i9 := by kernel_rfl
  i20 := by kernel_rfl
  i37 := by kernel_rfl
  i46 := by kernel_rfl
  i51 := by kernel_rfl
  i53 := by kernel_rfl
  i171 := by kernel_rfl
  i173 := by kernel_rfl
  i212 := by kernel_rfl
  i232 := by kernel_rfl
  i233 := by kernel_rfl
  m17 := by kernel_rfl
  m18 := by kernel_rfl
  m19 := by kernel_rfl }
open Go.RowKit Go.Sort Go.Lib in
theorem Tryd.internal_strconv_Itoa (n : Int) (h0 : -9223372036854775808 ≤ n) (h1 : n ≤ 9223372036854775807) (w : World) (htab : Lib.TabIs Tryd.prog w "internal/strconv.uint64pow10" .u64 Lib.pow10Tab) :
    Calls Tryd.prog 128 #[.int .i64 n] w fun e w' => e = .returned (.string ⟨(Lib.itoa n).toArray⟩) ∧ ∃ k os, w' = grow (w.drewN k) os := Any.internal_strconv_Itoa Tryd.laysM243 n h0 h1 w htab
def Tryd.lays243_ren : Go.Shelf.Ren := ⟨fun | 243 => 128 | 246 => 173 | 283 => 188 | 284 => 189 | 285 => 190 | 286 => 191 | 129 => 201 | 317 => 200 | 318 => 202 | 319 => 203 | 320 => 204 | 337 => 208 | 338 => 209 | n => n, fun | 3 => 3 | 9 => 9 | 2 => 2 | 4 => 4 | 171 => 234 | 0 => 0 | 53 => 49 | 37 => 28 | 5 => 5 | 173 => 237 | 212 => 248 | 51 => 50 | 20 => 20 | 213 => 249 | 46 => 203 | 232 => 256 | 233 => 257 | n => n, fun | 17 => 2 | 18 => 4 | 19 => 5 | n => n⟩
theorem Tryd.lays243 : Go.Proofs.Lays.n243 Tryd.prog Tryd.lays243_ren := {
  mixed := by kernel_rfl
  f129 := Tryd.func201.trans (congrArg some (by kernel_rfl))
  f243 := Tryd.func128.trans (congrArg some (by kernel_rfl))
  f246 := Tryd.func173.trans (congrArg some (by kernel_rfl))
  f283 := Tryd.func188.trans (congrArg some (by kernel_rfl))
  f284 := Tryd.func189.trans (congrArg some (by kernel_rfl))
  f285 := Tryd.func190.trans (congrArg some (by kernel_rfl))
  f286 := Tryd.func191.trans (congrArg some (by kernel_rfl))
  f317 := Tryd.func200.trans (congrArg some (by kernel_rfl))
  f318 := Tryd.func202.trans (congrArg some (by kernel_rfl))
  f319 := Tryd.func203.trans (congrArg some (by kernel_rfl))
  f320 := Tryd.func204.trans (congrArg some (by kernel_rfl))
  f337 := Tryd.func208.trans (congrArg some (by kernel_rfl))
  f338 := Tryd.func209.trans (congrArg some (by kernel_rfl))
  t0 := Tryd.underlying0
  a0 := Tryd.isAgg0
  z0 := Tryd.sizeOf0
  v0 := Tryd.zeroValue0
  t2 := Tryd.underlying2
  a2 := Tryd.isAgg2
  z2 := Tryd.sizeOf2
  v2 := Tryd.zeroValue2
  t3 := Tryd.underlying3
  a3 := Tryd.isAgg3
  z3 := Tryd.sizeOf3
  v3 := Tryd.zeroValue3
  t4 := Tryd.underlying4
  a4 := Tryd.isAgg4
  z4 := Tryd.sizeOf4
  v4 := Tryd.zeroValue4
  t5 := Tryd.underlying5
  a5 := Tryd.isAgg5
  z5 := Tryd.sizeOf5
  v5 := Tryd.zeroValue5
  t9 := Tryd.underlying9
  a9 := Tryd.isAgg9
  z9 := Tryd.sizeOf9
  v9 := Tryd.zeroValue9
  t20 := Tryd.underlying20
  a20 := Tryd.isAgg20
  z20 := Tryd.sizeOf20
  v20 := Tryd.zeroValue20
  t37 := Tryd.underlying28
  a37 := Tryd.isAgg28
  z37 := Tryd.sizeOf28
  v37 := Tryd.zeroValue28
  t46 := Tryd.underlying203
  a46 := Tryd.isAgg203
  z46 := Tryd.sizeOf203
  v46 := Tryd.zeroValue203
  t51 := Tryd.underlying50
  a51 := Tryd.isAgg50
  z51 := Tryd.sizeOf50
  v51 := Tryd.zeroValue50
  t53 := Tryd.underlying49
  a53 := Tryd.isAgg49
  z53 := Tryd.sizeOf49
  v53 := Tryd.zeroValue49
  t171 := Tryd.underlying234
  a171 := Tryd.isAgg234
  z171 := Tryd.sizeOf234
  v171 := Tryd.zeroValue234
  t173 := Tryd.underlying237
  a173 := Tryd.isAgg237
  z173 := Tryd.sizeOf237
  v173 := Tryd.zeroValue237
  t212 := Tryd.underlying248
  a212 := Tryd.isAgg248
  z212 := Tryd.sizeOf248
  v212 := Tryd.zeroValue248
  t213 := Tryd.underlying249
  a213 := Tryd.isAgg249
  z213 := Tryd.sizeOf249
  t232 := Tryd.underlying256
  a232 := Tryd.isAgg256
  z232 := Tryd.sizeOf256
  v232 := Tryd.zeroValue256
  t233 := Tryd.underlying257
  a233 := Tryd.isAgg257
  z233 := Tryd.sizeOf257
  v233 := Tryd.zeroValue257
  g17 := by kernel_rfl
  g18 := by kernel_rfl
  g19 := by kernel_rfl }
open Go.RowKit Go.Sort Go.Lib in
theorem Tryd.internal_strconv_Itoa_small (i : Nat) (hi : i < 100) (w : World) :
    Calls Tryd.prog 128 #[.int .i64 i] w fun e w' => e = .returned (.string ⟨(Lib.decDigits i).toArray⟩) ∧ w' = w := Any.internal_strconv_Itoa_small Tryd.lays243 i hi w
def Tryd.laysM171_ren : Go.Shelf.Ren := ⟨fun | 171 => 72 | 243 => 128 | 246 => 173 | 283 => 188 | 284 => 189 | 285 => 190 | 286 => 191 | 129 => 201 | 317 => 200 | 318 => 202 | 319 => 203 | 320 => 204 | 337 => 208 | 338 => 209 | n => n, fun | 3 => 3 | 9 => 9 | 2 => 2 | 4 => 4 | 171 => 234 | 0 => 0 | 53 => 49 | 37 => 28 | 5 => 5 | 173 => 237 | 212 => 248 | 51 => 50 | 20 => 20 | 213 => 249 | 46 => 203 | 232 => 256 | 233 => 257 | n => n, fun | 17 => 2 | 18 => 4 | 19 => 5 | n => n⟩
theorem Tryd.laysM171 : Go.Proofs.LaysM.n171 Tryd.prog Tryd.laysM171_ren := {
  mixed := by kernel_rfl
  f129 := Tryd.func201.trans (congrArg some (by kernel_rfl))
  f171 := Tryd.func72.trans (congrArg some (by kernel_rfl))
  f243 := Tryd.func128.trans (congrArg some (by kernel_rfl))
  f246 := Tryd.func173.trans (congrArg some (by kernel_rfl))
  f283 := Tryd.func188.trans (congrArg some (by kernel_rfl))
  f284 := Tryd.func189.trans (congrArg some (by kernel_rfl))
  f285 := Tryd.func190.trans (congrArg some (by kernel_rfl))
  f286 := Tryd.func191.trans (congrArg some (by kernel_rfl))
  f317 := Tryd.func200.trans (congrArg some (by kernel_rfl))
  f318 := Tryd.func202.trans (congrArg some (by kernel_rfl))
  f319 := Tryd.func203.trans (congrArg some (by kernel_rfl))
  f320 := Tryd.func204.trans (congrArg some (by kernel_rfl))
  f337 := Tryd.func208.trans (congrArg some (by kernel_rfl))
  f338 := Tryd.func209.trans (congrArg some (by kernel_rfl))
  t0 := Tryd.underlying0
  a0 := Tryd.isAgg0
  z0 := Tryd.sizeOf0
  v0 := Tryd.zeroValue0
  t2 := Tryd.underlying2
  a2 := Tryd.isAgg2
  z2 := Tryd.sizeOf2
  v2 := Tryd.zeroValue2
  t3 := Tryd.underlying3
  a3 := Tryd.isAgg3
  z3 := Tryd.sizeOf3
  v3 := Tryd.zeroValue3
  t4 := Tryd.underlying4
  a4 := Tryd.isAgg4
  z4 := Tryd.sizeOf4
  v4 := Tryd.zeroValue4
  t5 := Tryd.underlying5
  a5 := Tryd.isAgg5
  z5 := Tryd.sizeOf5
  v5 := Tryd.zeroValue5
  t9 := Tryd.underlying9
  a9 := Tryd.isAgg9
  z9 := Tryd.sizeOf9
  v9 := Tryd.zeroValue9
  t20 := Tryd.underlying20
  a20 := Tryd.isAgg20
  z20 := Tryd.sizeOf20
  v20 := Tryd.zeroValue20
  t37 := Tryd.underlying28
  a37 := Tryd.isAgg28
  z37 := Tryd.sizeOf28
  v37 := Tryd.zeroValue28
  t46 := Tryd.underlying203
  a46 := Tryd.isAgg203
  z46 := Tryd.sizeOf203
  v46 := Tryd.zeroValue203
  t51 := Tryd.underlying50
  a51 := Tryd.isAgg50
  z51 := Tryd.sizeOf50
  v51 := Tryd.zeroValue50
  t53 := Tryd.underlying49
  a53 := Tryd.isAgg49
  z53 := Tryd.sizeOf49
  v53 := Tryd.zeroValue49
  t171 := Tryd.underlying234
  a171 := Tryd.isAgg234
  z171 := Tryd.sizeOf234
  v171 := Tryd.zeroValue234
  t173 := Tryd.underlying237
  a173 := Tryd.isAgg237
  z173 := Tryd.sizeOf237
  v173 := Tryd.zeroValue237
  t212 := Tryd.underlying248
  a212 := Tryd.isAgg248
  z212 := Tryd.sizeOf248
  v212 := Tryd.zeroValue248
  t213 := Tryd.underlying249
  a213 := Tryd.isAgg249
  z213 := Tryd.sizeOf249
  t232 := Tryd.underlying256
  a232 := Tryd.isAgg256
  z232 := Tryd.sizeOf256
  v232 := Tryd.zeroValue256
  t233 := Tryd.underlying257
  a233 := Tryd.isAgg257
  z233 := Tryd.sizeOf257
  v233 := Tryd.zeroValue257
  g17 := by kernel_rfl
  g18 := by kernel_rfl
  g19 := by kernel_rfl
  i0 := by kernel_rfl
  i2 := by kernel_rfl
  i3 := by kernel_rfl
  i4 := by kernel_rfl
  i5 := by kernel_rfl
  i9 := by kernel_rfl
  i20 := by kernel_rfl
  i37 := by kernel_rfl
  i46 := by kernel_rfl
  i51 := by kernel_rfl
  i53 := by kernel_rfl
  i171 := by kernel_rfl
  i173 := by kernel_rfl
  i212 := by kernel_rfl
  i232 := by kernel_rfl
  i233 := by kernel_rfl
  m17 := by kernel_rfl
  m18 := by kernel_rfl
  m19 := by kernel_rfl }
open Go.RowKit Go.Sort Go.Lib in
theorem Tryd.strconv_Itoa (n : Int) (h0 : -9223372036854775808 ≤ n) (h1 : n ≤ 9223372036854775807) (w : World) (htab : Lib.TabIs Tryd.prog w "internal/strconv.uint64pow10" .u64 Lib.pow10Tab) :
    Calls Tryd.prog 72 #[.int .i64 n] w fun e w' => e = .returned (.string ⟨(Lib.itoa n).toArray⟩) ∧ ∃ k os, w' = grow (w.drewN k) os := Any.strconv_Itoa Tryd.laysM171 n h0 h1 w htab
def Tryd.lays171_ren : Go.Shelf.Ren := ⟨fun | 171 => 72 | 243 => 128 | 246 => 173 | 283 => 188 | 284 => 189 | 285 => 190 | 286 => 191 | 129 => 201 | 317 => 200 | 318 => 202 | 319 => 203 | 320 => 204 | 337 => 208 | 338 => 209 | n => n, fun | 3 => 3 | 9 => 9 | 2 => 2 | 4 => 4 | 171 => 234 | 0 => 0 | 53 => 49 | 37 => 28 | 5 => 5 | 173 => 237 | 212 => 248 | 51 => 50 | 20 => 20 | 213 => 249 | 46 => 203 | 232 => 256 | 233 => 257 | n => n, fun | 17 => 2 | 18 => 4 | 19 => 5 | n => n⟩
theorem Tryd.lays171 : Go.Proofs.Lays.n171 Tryd.prog Tryd.lays171_ren := {
  mixed := by kernel_rfl
  f129 := Tryd.func201.trans (congrArg some (by kernel_rfl))
  f171 := Tryd.func72.trans (congrArg some (by kernel_rfl))
  f243 := Tryd.func128.trans (congrArg some (by kernel_rfl))
  f246 := Tryd.func173.trans (congrArg some (by kernel_rfl))
  f283 := Tryd.func188.trans (congrArg some (by kernel_rfl))
  f284 := Tryd.func189.trans (congrArg some (by kernel_rfl))
  f285 := Tryd.func190.trans (congrArg some (by kernel_rfl))
  f286 := Tryd.func191.trans (congrArg some (by kernel_rfl))
  f317 := Tryd.func200.trans (congrArg some (by kernel_rfl))
  f318 := Tryd.func202.trans (congrArg some (by kernel_rfl))
  f319 := Tryd.func203.trans (congrArg some (by kernel_rfl))
  f320 := Tryd.func204.trans (congrArg some (by kernel_rfl))
  f337 := Tryd.func208.trans (congrArg some (by kernel_rfl))
  f338 := Tryd.func209.trans (congrArg some (by kernel_rfl))
  t0 := Tryd.underlying0
  a0 := Tryd.isAgg0
  z0 := Tryd.sizeOf0
  v0 := Tryd.zeroValue0
  t2 := Tryd.underlying2
  a2 := Tryd.isAgg2
  z2 := Tryd.sizeOf2
  v2 := Tryd.zeroValue2
  t3 := Tryd.underlying3
  a3 := Tryd.isAgg3
  z3 := Tryd.sizeOf3
  v3 := Tryd.zeroValue3
  t4 := Tryd.underlying4
  a4 := Tryd.isAgg4
  z4 := Tryd.sizeOf4
  v4 := Tryd.zeroValue4
  t5 := Tryd.underlying5
  a5 := Tryd.isAgg5
  z5 := Tryd.sizeOf5
  v5 := Tryd.zeroValue5
  t9 := Tryd.underlying9
  a9 := Tryd.isAgg9
  z9 := Tryd.sizeOf9
  v9 := Tryd.zeroValue9
  t20 := Tryd.underlying20
  a20 := Tryd.isAgg20
  z20 := Tryd.sizeOf20
  v20 := Tryd.zeroValue20
  t37 := Tryd.underlying28
  a37 := Tryd.isAgg28
  z37 := Tryd.sizeOf28
  v37 := Tryd.zeroValue28
  t46 := Tryd.underlying203
  a46 := Tryd.isAgg203
  z46 := Tryd.sizeOf203
  v46 := Tryd.zeroValue203
  t51 := Tryd.underlying50
  a51 := Tryd.isAgg50
  z51 := Tryd.sizeOf50
  v51 := Tryd.zeroValue50
  t53 := Tryd.underlying49
  a53 := Tryd.isAgg49
  z53 := Tryd.sizeOf49
  v53 := Tryd.zeroValue49
  t171 := Tryd.underlying234
  a171 := Tryd.isAgg234
  z171 := Tryd.sizeOf234
  v171 := Tryd.zeroValue234
  t173 := Tryd.underlying237
  a173 := Tryd.isAgg237
  z173 := Tryd.sizeOf237
  v173 := Tryd.zeroValue237
  t212 := Tryd.underlying248
  a212 := Tryd.isAgg248
  z212 := Tryd.sizeOf248
  v212 := Tryd.zeroValue248
  t213 := Tryd.underlying249
  a213 := Tryd.isAgg249
  z213 := Tryd.sizeOf249
  t232 := Tryd.underlying256
  a232 := Tryd.isAgg256
  z232 := Tryd.sizeOf256
  v232 := Tryd.zeroValue256
  t233 := Tryd.underlying257
  a233 := Tryd.isAgg257
  z233 := Tryd.sizeOf257
  v233 := Tryd.zeroValue257
  g17 := by kernel_rfl
  g18 := by kernel_rfl
  g19 := by kernel_rfl }
open Go.RowKit Go.Sort Go.Lib in
theorem Tryd.strconv_Itoa_small (i : Nat) (hi : i < 100) (w : World) :
    Calls Tryd.prog 72 #[.int .i64 i] w fun e w' => e = .returned (.string ⟨(Lib.decDigits i).toArray⟩) ∧ w' = w := Any.strconv_Itoa_small Tryd.lays171 i hi w
def Tryd.lays206_ren : Go.Shelf.Ren := ⟨fun | 206 => 194 | n => n, fun | 9 => 9 | 4 => 4 | 3 => 3 | n => n, fun | n => n⟩
theorem Tryd.lays206 : Go.Proofs.Lays.n206 Tryd.prog Tryd.lays206_ren := {
  mixed := by kernel_rfl
  f206 := Tryd.func194.trans (congrArg some (by kernel_rfl))
  t3 := Tryd.underlying3
  a3 := Tryd.isAgg3
  z3 := Tryd.sizeOf3
  v3 := Tryd.zeroValue3
  t4 := Tryd.underlying4
  a4 := Tryd.isAgg4
  z4 := Tryd.sizeOf4
  v4 := Tryd.zeroValue4
  t9 := Tryd.underlying9
  a9 := Tryd.isAgg9
  z9 := Tryd.sizeOf9
  v9 := Tryd.zeroValue9 }
open Go.RowKit Go.Lib in
theorem Tryd.stringslite_HasPrefix (s p : ByteArray) (w : World) :
    Calls Tryd.prog 194 #[.string s, .string p] w fun e w' => e = .returned (.bool (Lib.hasPrefix s.data.toList p.data.toList)) ∧ w' = w := Any.stringslite_HasPrefix Tryd.lays206 s p w
def Tryd.lays99_ren : Go.Shelf.Ren := ⟨fun | 99 => 167 | 206 => 194 | n => n, fun | 9 => 9 | 4 => 4 | 3 => 3 | n => n, fun | n => n⟩
theorem Tryd.lays99 : Go.Proofs.Lays.n99 Tryd.prog Tryd.lays99_ren := {
  mixed := by kernel_rfl
  f99 := Tryd.func167.trans (congrArg some (by kernel_rfl))
  f206 := Tryd.func194.trans (congrArg some (by kernel_rfl))
  t3 := Tryd.underlying3
  a3 := Tryd.isAgg3
  z3 := Tryd.sizeOf3
  v3 := Tryd.zeroValue3
  t4 := Tryd.underlying4
  a4 := Tryd.isAgg4
  z4 := Tryd.sizeOf4
  v4 := Tryd.zeroValue4
  t9 := Tryd.underlying9
  a9 := Tryd.isAgg9
  z9 := Tryd.sizeOf9
  v9 := Tryd.zeroValue9 }
open Go.RowKit Go.Lib in
theorem Tryd.strings_HasPrefix (s p : ByteArray) (w : World) :
    Calls Tryd.prog 167 #[.string s, .string p] w fun e w' => e = .returned (.bool (Lib.hasPrefix s.data.toList p.data.toList)) ∧ w' = w := Any.strings_HasPrefix Tryd.lays99 s p w
def Tryd.lays264_ren : Go.Shelf.Ren := ⟨fun | 264 => 193 | n => n, fun | 53 => 49 | 46 => 203 | n => n, fun | n => n⟩
theorem Tryd.lays264 : Go.Proofs.Lays.n264 Tryd.prog Tryd.lays264_ren := {
  mixed := by kernel_rfl
  f264 := Tryd.func193.trans (congrArg some (by kernel_rfl))
  t46 := Tryd.underlying203
  a46 := Tryd.isAgg203
  z46 := Tryd.sizeOf203
  v46 := Tryd.zeroValue203
  t53 := Tryd.underlying49
  a53 := Tryd.isAgg49
  z53 := Tryd.sizeOf49
  v53 := Tryd.zeroValue49 }
open Go.RowKit Go.Lib in
theorem Tryd.bits_Mul64 (x y : Nat) (hx : x < 18446744073709551616) (hy : y < 18446744073709551616) (w : World) :
    Calls Tryd.prog 193 #[.int .u64 x, .int .u64 y] w fun e w' => e = .returned (.tuple #[.int .u64 ((x * y / 18446744073709551616 : Nat) : Int), .int .u64 ((x * y % 18446744073709551616 : Nat) : Int)]) ∧ w' = w := Any.bits_Mul64 Tryd.lays264 x y hx hy w
def Tryd.lays212_ren : Go.Shelf.Ren := ⟨fun | 212 => 166 | 263 => 192 | 264 => 193 | n => n, fun | 46 => 203 | 51 => 50 | 146 => 239 | 53 => 49 | 148 => 241 | n => n, fun | n => n⟩
theorem Tryd.lays212 : Go.Proofs.Lays.n212 Tryd.prog Tryd.lays212_ren := {
  mixed := by kernel_rfl
  f212 := Tryd.func166.trans (congrArg some (by kernel_rfl))
  f263 := Tryd.func192.trans (congrArg some (by kernel_rfl))
  f264 := Tryd.func193.trans (congrArg some (by kernel_rfl))
  t46 := Tryd.underlying203
  a46 := Tryd.isAgg203
  z46 := Tryd.sizeOf203
  v46 := Tryd.zeroValue203
  t51 := Tryd.underlying50
  a51 := Tryd.isAgg50
  z51 := Tryd.sizeOf50
  v51 := Tryd.zeroValue50
  t53 := Tryd.underlying49
  a53 := Tryd.isAgg49
  z53 := Tryd.sizeOf49
  v53 := Tryd.zeroValue49
  t146 := Tryd.underlying239
  a146 := Tryd.isAgg239
  z146 := Tryd.sizeOf239
  v146 := Tryd.zeroValue239
  t148 := Tryd.underlying241
  a148 := Tryd.isAgg241
  z148 := Tryd.sizeOf241
  v148 := Tryd.zeroValue241 }
open Go.RowKit Go.Lib in
theorem Tryd.bits_Mul (x y : Nat) (hx : x < 18446744073709551616) (hy : y < 18446744073709551616) (w : World) :
    Calls Tryd.prog 166 #[.int .u64 x, .int .u64 y] w fun e w' => e = .returned (.tuple #[.int .u64 ((x * y / 18446744073709551616 : Nat) : Int), .int .u64 ((x * y % 18446744073709551616 : Nat) : Int)]) ∧ w' = w := Any.bits_Mul Tryd.lays212 x y hx hy w
def Tryd.lays105_ren : Go.Shelf.Ren := ⟨fun | 105 => 125 | 212 => 166 | 99 => 167 | 165 => 168 | 166 => 169 | 170 => 170 | 169 => 171 | 263 => 192 | 264 => 193 | 206 => 194 | 240 => 195 | 241 => 196 | 276 => 205 | 277 => 206 | n => n, fun | 9 => 9 | 3 => 3 | 4 => 4 | 20 => 20 | 0 => 0 | 46 => 203 | 109 => 204 | 5 => 5 | 72 => 209 | 76 => 213 | 51 => 50 | 146 => 239 | 53 => 49 | 148 => 241 | 70 => 207 | 37 => 28 | 75 => 212 | 127 => 243 | 164 => 251 | 80 => 215 | n => n, fun | n => n⟩
theorem Tryd.lays105 : Go.Proofs.Lays.n105 Tryd.prog Tryd.lays105_ren := {
  mixed := by kernel_rfl
  f99 := Tryd.func167.trans (congrArg some (by kernel_rfl))
  f105 := Tryd.func125.trans (congrArg some (by kernel_rfl))
  f165 := Tryd.func168.trans (congrArg some (by kernel_rfl))
  f166 := Tryd.func169.trans (congrArg some (by kernel_rfl))
  f169 := Tryd.func171.trans (congrArg some (by kernel_rfl))
  f170 := Tryd.func170.trans (congrArg some (by kernel_rfl))
  f206 := Tryd.func194.trans (congrArg some (by kernel_rfl))
  f212 := Tryd.func166.trans (congrArg some (by kernel_rfl))
  f240 := Tryd.func195.trans (congrArg some (by kernel_rfl))
  f241 := Tryd.func196.trans (congrArg some (by kernel_rfl))
  f263 := Tryd.func192.trans (congrArg some (by kernel_rfl))
  f264 := Tryd.func193.trans (congrArg some (by kernel_rfl))
  f276 := Tryd.func205.trans (congrArg some (by kernel_rfl))
  f277 := Tryd.func206.trans (congrArg some (by kernel_rfl))
  t0 := Tryd.underlying0
  a0 := Tryd.isAgg0
  z0 := Tryd.sizeOf0
  v0 := Tryd.zeroValue0
  t3 := Tryd.underlying3
  a3 := Tryd.isAgg3
  z3 := Tryd.sizeOf3
  v3 := Tryd.zeroValue3
  t4 := Tryd.underlying4
  a4 := Tryd.isAgg4
  z4 := Tryd.sizeOf4
  v4 := Tryd.zeroValue4
  t5 := Tryd.underlying5
  a5 := Tryd.isAgg5
  z5 := Tryd.sizeOf5
  v5 := Tryd.zeroValue5
  t9 := Tryd.underlying9
  a9 := Tryd.isAgg9
  z9 := Tryd.sizeOf9
  v9 := Tryd.zeroValue9
  t20 := Tryd.underlying20
  a20 := Tryd.isAgg20
  z20 := Tryd.sizeOf20
  v20 := Tryd.zeroValue20
  t37 := Tryd.underlying28
  a37 := Tryd.isAgg28
  z37 := Tryd.sizeOf28
  v37 := Tryd.zeroValue28
  t46 := Tryd.underlying203
  a46 := Tryd.isAgg203
  z46 := Tryd.sizeOf203
  v46 := Tryd.zeroValue203
  t51 := Tryd.underlying50
  a51 := Tryd.isAgg50
  z51 := Tryd.sizeOf50
  v51 := Tryd.zeroValue50
  t53 := Tryd.underlying49
  a53 := Tryd.isAgg49
  z53 := Tryd.sizeOf49
  v53 := Tryd.zeroValue49
  t70 := Tryd.underlying207
  a70 := Tryd.isAgg207
  z70 := Tryd.sizeOf207
  v70 := Tryd.zeroValue207
  t72 := Tryd.underlying209
  a72 := Tryd.isAgg209
  z72 := Tryd.sizeOf209
  v72 := Tryd.zeroValue209
  t75 := Tryd.underlying212
  a75 := Tryd.isAgg212
  z75 := Tryd.sizeOf212
  v75 := Tryd.zeroValue212
  t76 := Tryd.underlying213
  a76 := Tryd.isAgg213
  z76 := Tryd.sizeOf213
  v76 := Tryd.zeroValue213
  t109 := Tryd.underlying204
  a109 := Tryd.isAgg204
  z109 := Tryd.sizeOf204
  v109 := Tryd.zeroValue204
  t127 := Tryd.underlying243
  a127 := Tryd.isAgg243
  z127 := Tryd.sizeOf243
  v127 := Tryd.zeroValue243
  t146 := Tryd.underlying239
  a146 := Tryd.isAgg239
  z146 := Tryd.sizeOf239
  v146 := Tryd.zeroValue239
  t148 := Tryd.underlying241
  a148 := Tryd.isAgg241
  z148 := Tryd.sizeOf241
  v148 := Tryd.zeroValue241
  t164 := Tryd.underlying251
  a164 := Tryd.isAgg251
  z164 := Tryd.sizeOf251
  v164 := Tryd.zeroValue251 }
theorem Tryd.Builder_Extra_105 : Builder.Extra Tryd.prog Tryd.lays105_ren := {
  sizeBuilder := by kernel_rfl
  liesBuilder := by kernel_rfl
  t5 := Tryd.underlying5
  a5 := Tryd.isAgg5
  z5 := Tryd.sizeOf5
  v5 := Tryd.zeroValue5
  infoByte := by kernel_rfl
  cellsByte := by kernel_rfl
  sizeByte := by kernel_rfl
  neB5 := by decide }
open Go.RowKit Go.Lib in
theorem Tryd.strings_Repeat_main (s : ByteArray) (c : Nat) (w : World) (hc2 : 2 ≤ c) (hc : c ≤ 9223372036854775807) (hlen : s.size * c ≤ 140737488355328) (h0 : 0 < s.size) :
    Calls Tryd.prog 125 #[.string s, .int .i64 c] w fun e w' => e = .returned (.string ⟨(Lib.repeatL s.data.toList c).toArray⟩) ∧ Below w.heap.size w w' := Any.strings_Repeat_main Tryd.lays105 Tryd.Builder_Extra_105 s c w hc2 hc hlen h0
open Go.RowKit Go.Lib in
theorem Tryd.strings_Repeat_zero (s : ByteArray) (w : World) :
    Calls Tryd.prog 125 #[.string s, .int .i64 0] w fun e w' => e = .returned (.string ⟨#[]⟩) ∧ w' = w := Any.strings_Repeat_zero Tryd.lays105 s w
open Go.RowKit Go.Lib in
theorem Tryd.strings_Repeat_one (s : ByteArray) (w : World) :
    Calls Tryd.prog 125 #[.string s, .int .i64 1] w fun e w' => e = .returned (.string s) ∧ w' = w := Any.strings_Repeat_one Tryd.lays105 s w
open Go.RowKit Go.Lib in
theorem Tryd.strings_Repeat_empty (s : ByteArray) (c : Nat) (w : World) (hc2 : 2 ≤ c) (hc : c ≤ 9223372036854775807) (h0 : s.size = 0) :
    Calls Tryd.prog 125 #[.string s, .int .i64 c] w fun e w' => e = .returned (.string ⟨#[]⟩) ∧ w' = w := Any.strings_Repeat_empty Tryd.lays105 s c w hc2 hc h0
open Go.RowKit Go.Lib in
theorem Tryd.strings_Repeat_negative (s : ByteArray) (c : Int) (w : World) (hc : c < 0) :
    Calls Tryd.prog 125 #[.string s, .int .i64 c] w fun e w' => e = .panicked [{ v := repeatPanic Tryd.lays105_ren "strings: negative Repeat count", recovered := false }] ∧ w' = w := Any.strings_Repeat_negative Tryd.lays105 s c w hc
open Go.RowKit Go.Lib in
theorem Tryd.strings_Repeat_overflow (s : ByteArray) (c : Nat) (w : World) (hc : c ≤ 9223372036854775807) (hs : s.size ≤ 9223372036854775807) (hbig : 9223372036854775807 < s.size * c) :
    Calls Tryd.prog 125 #[.string s, .int .i64 c] w fun e w' => e = .panicked [{ v := repeatPanic Tryd.lays105_ren "strings: Repeat output length overflow", recovered := false }] ∧ w' = w := Any.strings_Repeat_overflow Tryd.lays105 s c w hc hs hbig
open Go.RowKit Go.Lib in
theorem Tryd.strings_Repeat (s : ByteArray) (c : Nat) (w : World) (hc : c ≤ 9223372036854775807) (hlen : s.size * c ≤ 140737488355328) :
    Calls Tryd.prog 125 #[.string s, .int .i64 c] w fun e w' => e = .returned (.string ⟨(Lib.repeatL s.data.toList c).toArray⟩) ∧ Below w.heap.size w w' := Any.strings_Repeat Tryd.lays105 Tryd.Builder_Extra_105 s c w hc hlen
end Go.Proofs

set_option linter.unusedVariables false
namespace Go.Proofs
open Go.Shelf Go.RowKit Go.Sort Go.Lib
theorem hz0 (w : World) (T : TypeId) (nd : Nat) (hs : nd ≤ 24) : Holds (fun (b : UInt8) => Value.int .u8 (b.toNat : Int)) (w.alloc (.cells Lib.zeros24 T)) w.heap.size 0 (Array.replicate nd (0 : UInt8)) := fun j hj => by
  have hj' : j < nd := by simpa using hj
  refine ⟨?_, World.frozen?_alloc_new _ _ _ _⟩
  rw [World.cell?_alloc_new, Lib.zeros24_at _ (by omega), getElem!_pos _ j hj]
  simp
theorem fin0 (w : World) (o : Obj) (dk : Array UInt8) (k : Nat) : ∃ os, (putRow (fun (b : UInt8) => Value.int .u8 (b.toNat : Int)) (w.alloc o) w.heap.size 0 dk).drewN k = grow (w.drewN k) os := by
  rw [alloc_eq_grow]
  obtain ⟨os', _, e⟩ := putRow_grow_new (fun (b : UInt8) => Value.int .u8 (b.toNat : Int)) w #[o] w.heap.size 0 dk (Nat.le_refl _)
  exact ⟨os', by rw [e]; rfl⟩

set_option maxRecDepth 100000 in
set_option maxHeartbeats 2000000 in
theorem fmtU_small (u : Nat) (h : u < 100) (w : World) :
    Calls Tryd.prog 165 #[.int .u64 (u : Int), .int .i64 10] w fun e w' => e = .returned (.string ⟨(Lib.decDigits u).toArray⟩) ∧ w' = w := by
  have hc : IntKind.i64.wrap (u : Int) = (u : Int) := by rw [IntKind.wrap_i64]; omega
  go_enter Tryd.func165, Tryd.ntmps165
  go_wp2_with (go_at_call 188; refine (Tryd.internal_strconv_small u h _).mono ?_; rintro e w' ⟨rfl, rfl⟩)
  go_ret
  exact ⟨rfl, rfl⟩

set_option maxRecDepth 100000 in
set_option maxHeartbeats 6400000 in
theorem fmtU_big (u : Nat) (h100 : 100 ≤ u) (hu64 : u < 18446744073709551616) (w : World) (htab : Lib.TabIs Tryd.prog w "internal/strconv.uint64pow10" .u64 Lib.pow10Tab) :
    Calls Tryd.prog 165 #[.int .u64 (u : Int), .int .i64 10] w fun e w' => e = .returned (.string ⟨(Lib.decDigits u).toArray⟩) ∧ ∃ k os, w' = grow (w.drewN k) os := by
  have hu1 : 1 ≤ u := by omega
  have hnd20 : Lib.nDigits u ≤ 20 := by have := Lib.numDigits_eq u hu1 hu64; split at this <;> omega
  have hal : Tryd.prog.arrayLen 234 = 24 := by simp [Program.arrayLen, Tryd.underlying234]
  have hsl1 : ∀ W, (Instr.sliceAt 234 (.pointer (some ⟨w.heap.size, 0, none⟩)) none (some (.int .i64 (Lib.nDigits u : Int))) none).run Tryd.prog W = .ok (.slice (some ⟨w.heap.size, 0, none⟩) (Lib.nDigits u) 24) W := fun W => by
    rw [run_sliceAt_array_h W 234 ⟨w.heap.size, 0, none⟩ (by simp [Program.arrayLen, Program.elem, Tryd.underlying234]) .i64 (Lib.nDigits u : Int) (by omega) (by rw [hal]; omega)]
    go_simp
  have hH0 := hz0 w 234 (Lib.nDigits u) (by omega)
  have hfmt := Tryd.internal_strconv_formatBase10 w.heap.size 0 24 u (Array.replicate (Lib.nDigits u) 0) (w.alloc (.cells Lib.zeros24 234)) hH0 (by rw [Array.size_replicate]; exact Lib.lt_pow_nDigits u) hu64 (by rw [Array.size_replicate]; omega)
  rw [Array.size_replicate] at hfmt
  have HH0 := Lib.hid hH0
  clear hH0 hal
  go_enter Tryd.func165, Tryd.ntmps165
  go_wp2_with (first
    | (go_at_call 189; refine (Tryd.internal_strconv_numDigits u hu1 hu64 _ (Lib.tabIs_alloc htab _)).mono ?_; rintro e w' ⟨rfl, rfl⟩))
  go_at_call 190
  refine hfmt.mono ?_
  rintro e w' ⟨rfl, k, v', dk, rfl, hF⟩
  have hcv : (convert 28 9 (.slice (some ⟨w.heap.size, 0, none⟩) (Lib.nDigits u) 24)).run Tryd.prog ((putRow (fun (b : UInt8) => Value.int .u8 (b.toNat : Int)) (w.alloc (.cells Lib.zeros24 234)) w.heap.size 0 dk).drewN k) = .ok (.string ⟨(Lib.decDigits u).toArray⟩) ((putRow (fun (b : UInt8) => Value.int .u8 (b.toNat : Int)) (w.alloc (.cells Lib.zeros24 234)) w.heap.size 0 dk).drewN k) := by
    have h := run_convert_bytes_back (P := Tryd.prog) ((putRow (fun (b : UInt8) => Value.int .u8 (b.toNat : Int)) (w.alloc (.cells Lib.zeros24 234)) w.heap.size 0 dk).drewN k) 28 9 5 ⟨w.heap.size, 0, none⟩ 24 (Lib.decDigits u) Tryd.underlying28 Tryd.underlying5 Tryd.underlying9 (fun j hj => by
      rw [Lib.row_is_numeral hF j hj, Lib.add_plain, World.cell?_drewN]
      exact cell?_putRow (fun (b : UInt8) => Value.int .u8 (b.toNat : Int)) _ w.heap.size 0 _ dk HH0.out (by rw [hF.size, Array.size_replicate]) j (by rw [hF.size]; rw [Lib.decDigits_length] at hj; exact hj))
    rw [Lib.decDigits_length] at h
    exact h
  go_wp2
  go_ret
  obtain ⟨os, eo⟩ := fin0 w (.cells Lib.zeros24 234) dk k
  exact ⟨rfl, k, os, eo⟩
end Go.Proofs

set_option linter.unusedVariables false
set_option linter.unusedSimpArgs false
set_option maxRecDepth 100000
set_option maxHeartbeats 2000000
namespace Go.Vd
open Go.Proofs
theorem grow_ext (w : World) (k : Nat) (os : Array Obj) : Ext w (Go.Sort.grow (w.drewN k) os) := by
  refine ⟨rfl, rfl, rfl, ?_, fun b hb _ => ?_⟩
  · simp [Go.Sort.grow]
  · simp [Go.Sort.grow, Array.getElem?_append, hb]
theorem gTab : Tryd.prog.globalNamed "internal/strconv.uint64pow10" = some 2 := by kernel_rfl
/-- The table, from what is known of the package's variables. -/
theorem tab_of {w : World} {rw : Nat → Prop} (h : GlOk gl0 w rw) : Lib.TabIs Tryd.prog w "internal/strconv.uint64pow10" .u64 Lib.pow10Tab := by
  obtain ⟨⟨cs, t, b, hc, hs⟩, _⟩ := h.2 2 20 _ rfl
  have h1 := h.1 2 (fun _ => undef) fun _ => False
  unfold Lib.TabIs World.var?
  rw [gTab]
  simp only [Option.bind_some, hc, Option.some.injEq]
  apply Array.ext
  · rw [hs]; simp [Lib.pow10Tab_length]
  · intro j hj _
    rw [hs] at hj
    have h2 : w.cell? ⟨2, j, none⟩ = some (.int .u64 (Lib.pow10Tab.getD j 0)) := by
      generalize hg : gl0 2 = s at h1
      generalize hv : Value.pointer (some ⟨2, 0, none⟩) = pv at h1
      cases h1 with
      | rop a k f g hsp hcc hr =>
        have e2 : (SV.rop 20 fun j => .int .u64 (Lib.pow10Tab.getD j 0)) = .rop k f := hg
        cases e2
        cases hv
        have e3 := (hcc j hj).1
        have e4 := hr j hj
        have e5 : g j = .int .u64 (Lib.pow10Tab.getD j 0) := by
          generalize g j = v at e4
          cases e4 with
          | int => rfl
        rw [Lib.add_plain, Nat.zero_add, e5] at e3
        exact e3
      | _ => exact absurd (show (SV.rop 20 fun j => .int .u64 (Lib.pow10Tab.getD j 0)) = _ from hg) (by intro e; cases e)
    have h3 : cs[j]? = some (.int .u64 (Lib.pow10Tab.getD j 0)) := by
      unfold World.cell? at h2
      rw [hc] at h2
      exact h2
    have hjs : j < cs.size := by omega
    rw [Array.getElem?_eq_getElem hjs] at h3
    rw [Option.some.inj h3, List.getD_eq_getElem?_getD, List.getElem?_eq_getElem (by rw [Lib.pow10Tab_length]; exact hj)]
    simp
theorem dec_small {k : Nat} (h : k < 10) : Lib.decDigits k = [dC k] := by rw [Lib.decDigits, dif_pos h]; rfl
theorem ba_eta (s : ByteArray) : (⟨s.data.toList.toArray⟩ : ByteArray) = s := by cases s; simp
theorem good_Itoa (k : Nat) (hk : k < 10) : GoodP Tryd.prog gl0 72 [.int .i64 (k : Int)] (.str (std.ts fun _ => [dC k])) := by
  intro w ρ rw N vs hfr hrw hg hargs
  match vs, hargs with
  | [v1], ⟨r1, _⟩ =>
    generalize hs1 : SV.int .i64 (k : Int) = s1 at r1
    cases r1 with
    | int kk n =>
      cases hs1
      refine (Tryd.strconv_Itoa_small k (by omega) w).mono fun e w' hq => ?_
      obtain ⟨rfl, rfl⟩ := hq
      refine ⟨_, rfl, Keep.refl _ _, fun key _ => ?_⟩
      have h : Rel w' ρ rw N (.string ⟨(Lib.decDigits k).toArray⟩) (.str (Lib.decDigits k).toArray.toList) := Rel.str _
      rw [List.toList_toArray, dec_small hk] at h
      rw [dec_small hk]
      exact h
    | _ => cases hs1
theorem good_FmtU (u : Nat) (hu : u < 18446744073709551616) : GoodP Tryd.prog gl0 124 [.int .u64 (u : Int), .int .i64 10] (.str (std.ts fun _ => Lib.decDigits u)) := by
  intro w ρ rw N vs hfr hrw hg hargs
  match vs, hargs with
  | [v1, v2], ⟨r1, r2, _⟩ =>
    generalize hs1 : SV.int .u64 (u : Int) = s1 at r1
    generalize hs2 : SV.int .i64 10 = s2 at r2
    cases r1 with
    | int kk n =>
      cases r2 with
      | int kk2 n2 =>
        cases hs1
        cases hs2
        have hpost : Calls Tryd.prog 165 #[.int .u64 (u : Int), .int .i64 10] w fun e w' => e = .returned (.string ⟨(Lib.decDigits u).toArray⟩) ∧ Ext w w' := by
          by_cases h : u < 100
          · refine (fmtU_small u h w).mono fun e w' hq => ?_
            obtain ⟨rfl, rfl⟩ := hq
            exact ⟨rfl, Keep.refl _ _⟩
          · refine (fmtU_big u (by omega) hu w (tab_of hg)).mono fun e w' hq => ?_
            obtain ⟨rfl, k, os, rfl⟩ := hq
            exact ⟨rfl, grow_ext w k os⟩
        have hall : Calls Tryd.prog 124 #[.int .u64 (u : Int), .int .i64 10] w fun e w' => e = .returned (.string ⟨(Lib.decDigits u).toArray⟩) ∧ Ext w w' := by
          go_enter Tryd.func124, Tryd.ntmps124
          go_wp2_with (go_at_call 165; refine hpost.mono ?_; rintro e w' ⟨rfl, hx⟩)
          go_ret
          exact ⟨rfl, hx⟩
        refine hall.mono fun e w' hq => ?_
        obtain ⟨rfl, hx⟩ := hq
        refine ⟨_, rfl, hx, fun key _ => ?_⟩
        have h : Rel w' ρ rw N (.string ⟨(Lib.decDigits u).toArray⟩) (.str (Lib.decDigits u).toArray.toList) := Rel.str _
        rw [List.toList_toArray] at h
        exact h
      | _ => cases hs2
    | _ => cases hs1
theorem good_Repeat (L : List UInt8) (c : Nat) (hc : c ≤ 1000 ∧ L.length ≤ 1000) : GoodP Tryd.prog gl0 125 [.str L, .int .i64 (c : Int)] (.str (std.ts fun _ => Lib.repeatL L c)) := by
  intro w ρ rw N vs hfr hrw hg hargs
  match vs, hargs with
  | [v1, v2], ⟨r1, r2, _⟩ =>
    generalize hs1 : SV.str L = s1 at r1
    generalize hs2 : SV.int .i64 (c : Int) = s2 at r2
    cases r1 with
    | str s =>
      cases r2 with
      | int kk2 n2 =>
        cases hs1
        cases hs2
        have hl : s.size ≤ 1000 := by have h9 := hc.2; rw [Array.length_toList] at h9; exact h9
        have hm : s.size * c ≤ 1000 * 1000 := Nat.mul_le_mul hl hc.1
        refine (Tryd.strings_Repeat s c w (by omega) (by omega)).mono fun e w' hq => ?_
        obtain ⟨rfl, hb⟩ := hq
        refine ⟨_, rfl, Ext.of_below hb, fun key _ => ?_⟩
        have h : Rel w' ρ rw N (.string ⟨(Lib.repeatL s.data.toList c).toArray⟩) (.str (Lib.repeatL s.data.toList c).toArray.toList) := Rel.str _
        rw [List.toList_toArray] at h
        exact h
      | _ => cases hs2
    | _ => cases hs1
theorem good_Itoa' (k : Int) (hk : 0 ≤ k ∧ k < 10) : GoodP Tryd.prog gl0 72 [.int .i64 k] (.str (std.ts fun _ => [dC k.toNat])) := by
  obtain ⟨m, rfl⟩ : ∃ m : Nat, k = m := ⟨k.toNat, by omega⟩
  exact good_Itoa m (by omega)
theorem good_FmtU' (u : Int) (hu : 0 ≤ u ∧ u < 18446744073709551616) : GoodP Tryd.prog gl0 124 [.int .u64 u, .int .i64 10] (.str (std.ts fun _ => Lib.decDigits u.toNat)) := by
  obtain ⟨m, rfl⟩ : ∃ m : Nat, u = m := ⟨u.toNat, by omega⟩
  exact good_FmtU m (by omega)
theorem good_Repeat' (L : List UInt8) (c : Int) (hc : 0 ≤ c ∧ c ≤ 1000 ∧ L.length ≤ 1000) : GoodP Tryd.prog gl0 125 [.str L, .int .i64 c] (.str (std.ts fun _ => Lib.repeatL L c.toNat)) := by
  obtain ⟨m, rfl⟩ : ∃ m : Nat, c = m := ⟨c.toNat, by omega⟩
  exact good_Repeat L m ⟨by omega, hc.2.2⟩
noncomputable def c_Itoa : Ct := fun A args => match args with
  | [.int .i64 k] => some (some (A.tp fun _ => 0 ≤ k ∧ k < 10), .str (A.ts fun _ => [dC k.toNat]))
  | _ => none
noncomputable def c_FmtU : Ct := fun A args => match args with
  | [.int .u64 u, .int .i64 10] => some (some (A.tp fun _ => 0 ≤ u ∧ u < 18446744073709551616), .str (A.ts fun _ => Lib.decDigits u.toNat))
  | _ => none
noncomputable def c_Repeat : Ct := fun A args => match args with
  | [.str L, .int .i64 c] => some (some (A.tp fun _ => 0 ≤ c ∧ c ≤ 1000 ∧ L.length ≤ 1000), .str (A.ts fun _ => Lib.repeatL L c.toNat))
  | _ => none
noncomputable def c_gFine : Ct := fun A args => match args with
  | [.str L] => some (some (A.tp fun _ => L.length ≤ 100000), .bool (A.tb fun _ => lFine L))
  | _ => none
noncomputable def c_rFine : Ct := fun A args => match args with
  | [.str L] => some (some (A.tp fun _ => L.length ≤ 100000), .bool (A.tb fun _ => lFine L))
  | _ => none
noncomputable def gg3 : Ar → Pu := addC 72 c_Itoa (addC 124 c_FmtU (addC 125 c_Repeat (addC 18 c_gFine (addC 91 c_rFine (gg2)))))
theorem gg3_ok : PuOk Tryd.prog gl0 (gg3 std) := by
  refine addC_ok (addC_ok (addC_ok (addC_ok (addC_ok (gg2_ok) ⟨_, Tryd.func91, rfl, by decide⟩ ?_) ⟨_, Tryd.func18, rfl, by decide⟩ ?_) ⟨_, Tryd.func125, rfl, by decide⟩ ?_) ⟨_, Tryd.func124, rfl, by decide⟩ ?_) ⟨_, Tryd.func72, rfl, by decide⟩ ?_
  · intro args p r h hp
    unfold c_rFine at h
    split at h <;> cases h
    exact good_rFine _ hp
  · intro args p r h hp
    unfold c_gFine at h
    split at h <;> cases h
    exact good_gFine _ hp
  · intro args p r h hp
    unfold c_Repeat at h
    split at h <;> cases h
    exact good_Repeat' _ _ hp
  · intro args p r h hp
    unfold c_FmtU at h
    split at h <;> cases h
    exact good_FmtU' _ hp
  · intro args p r h hp
    unfold c_Itoa at h
    split at h <;> cases h
    exact good_Itoa' _ hp
def chS (L : List UInt8) : List UInt8 := if isD L = true then [dC (lCheck L)] else []
def chE (L : List UInt8) : Int := if isD L = true then 0 else 3
theorem ch1 {L : List UInt8} (h : isD L = true) : chS L = [dC (lCheck L)] ∧ chE L = 0 := ⟨if_pos h, if_pos h⟩
theorem ch0 {L : List UInt8} (h : isD L = false) : chS L = [] ∧ chE L = 3 := by
  unfold chS chE; rw [h]; exact ⟨rfl, rfl⟩
theorem ck_eq (n : Nat) : ((IntKind.i64.wrap (10 - (n : Int).tmod 10)).tmod 10) = (((10 - n % 10) % 10 : Nat) : Int) := by
  rw [Int.tmod_eq_emod_of_nonneg (by omega : (0:Int) ≤ n), w64 (by omega), Int.tmod_eq_emod_of_nonneg (by omega)]
  omega
theorem good_gCheck (L : List UInt8) (hL : L.length ≤ 50000) : GoodP Tryd.prog gl0 16 [.str L] (.tup [.str (std.ts fun _ => chS L), .int .i64 (std.ti fun _ => chE L)]) := by
  refine fn_sound' (T := seatT) (G := gg3) (X := noX) seatT_ok gg3_ok noX_ok noI_ok mixed Tryd.func16 (.one) (fun A => [.str L]) (fun A => .tup [.str (A.ts fun _ => chS L), .int .i64 (A.ti fun _ => chE L)]) fun A hA => ?_
  cbv
  repeat' (first | with_reducible exact True.intro | with_reducible exact dr_ok hA (by kernel_rfl) | with_reducible refine And.intro ?_ ?_ | (intro hc; cbv))
  all_goals (subst hA; simp [std_add, std_sub, std_mul, std_quo, std_rem, std_band, std_bor, std_bxor, std_shl, std_shr, std_eq, std_ne, std_lt, std_le, std_conv, std_not, std_beq, std_bne, std_ite, std_want, std_and2, std_sadd, std_seq, std_sne, std_slt, std_sle, std_sgt, std_sge, std_slen, std_sget, std_scut, std_ofNat, std_toNat, std_nsub, std_nadd, std_lenOf, std_nz, std_nneg, std_inb, std_upto, std_slt63, std_grow, std_imp, std_impN, std_tr, std_tb, std_ti, std_ts, std_tn, std_tp, std_nmin, std_makes, std_room, std_zeros, std_nilq, std_notq, std_eqi, std_eqn, std_eqb, std_eqs, std_eqv, std_cat, std_lst, std_rset, std_rcopy, std_shift, std_eqr, std_strOf, std_bytesOf, std_isB, std_zOf, zOf_int, std_isI, isI_int, std_getL, std_nmul, std_sOf, sOf_str, std_isS, isS_str] at *)
  all_goals first
    | omega
    | exact (ch0 hc).1
    | exact (ch0 hc).2.symm
    | exact (ch1 hc).2.symm
    | exact ⟨by omega, hc⟩
    | (rw [ck_eq, Int.toNat_natCast]; exact (ch1 hc).1.symm)
    | (rw [ck_eq]; constructor <;> omega)
    | trace_state
theorem repl_eq : ∀ n, Lib.repeatL [48] n = List.replicate n (48 : UInt8)
  | 0 => rfl
  | n + 1 => by rw [Lib.repeatL, repl_eq n]; rfl
theorem decs_zero : ∀ n, decs n 0 = List.replicate n (48 : UInt8)
  | 0 => rfl
  | n + 1 => by
    rw [decs, Nat.zero_div, decs_zero n, List.replicate_succ']
    rfl
theorem nd_le : ∀ (n u : Nat), 1 ≤ n → u < 10 ^ n → Lib.nDigits u ≤ n
  | 0, _, h, _ => absurd h (by omega)
  | n + 1, u, _, h => by
    by_cases h1 : u < 10
    · rw [Lib.nDigits_small h1]; omega
    · rw [Lib.nDigits_big h1]
      rw [Nat.pow_succ] at h
      have h2 : u / 10 < 10 ^ n := by omega
      have h3 : 1 ≤ n := by
        rcases Nat.eq_zero_or_pos n with h4 | h4
        · subst h4; simp at h2; omega
        · exact h4
      have := nd_le n (u / 10) h3 h2
      omega
theorem nd_iff {n u : Nat} (hn : 1 ≤ n) : Lib.nDigits u ≤ n ↔ u < 10 ^ n :=
  ⟨fun h => Nat.lt_of_lt_of_le (Lib.lt_pow_nDigits u) (Nat.pow_le_pow_right (by omega) h), nd_le n u hn⟩
theorem rep_decs : ∀ (n u : Nat), 1 ≤ n → u < 10 ^ n → Lib.repeatL [48] (n - Lib.nDigits u) ++ Lib.decDigits u = decs n u
  | 0, _, h, _ => absurd h (by omega)
  | n + 1, u, _, h => by
    by_cases h1 : u < 10
    · rw [Lib.nDigits_small h1, Lib.decDigits, dif_pos h1, decs, Nat.div_eq_of_lt h1, decs_zero, repl_eq, Nat.mod_eq_of_lt h1]
      rfl
    · rw [Nat.pow_succ] at h
      have h2 : u / 10 < 10 ^ n := by omega
      have h3 : 1 ≤ n := by
        rcases Nat.eq_zero_or_pos n with h4 | h4
        · subst h4; simp at h2; omega
        · exact h4
      rw [Lib.nDigits_big h1, Lib.decDigits, dif_neg h1, decs, Nat.add_sub_add_right, ← List.append_assoc, rep_decs n (u / 10) h3 h2]
def puS (v n : Int) : List UInt8 := if n < 1 ∨ 19 < n then [] else if 10 ^ n.toNat ≤ v.toNat then [] else decs n.toNat v.toNat
def puE (v n : Int) : Int := if n < 1 ∨ 19 < n then 1 else if 10 ^ n.toNat ≤ v.toNat then 10 else 0
theorem pu1 {v n : Int} (h : n < 1 ∨ 19 < n) : puS v n = [] ∧ puE v n = 1 := ⟨if_pos h, if_pos h⟩
theorem pu2 {v n : Int} (h : ¬(n < 1 ∨ 19 < n)) (h2 : 10 ^ n.toNat ≤ v.toNat) : puS v n = [] ∧ puE v n = 10 := by
  unfold puS puE; rw [if_neg h, if_neg h, if_pos h2, if_pos h2]; exact ⟨rfl, rfl⟩
theorem pu3 {v n : Int} (h : ¬(n < 1 ∨ 19 < n)) (h2 : ¬10 ^ n.toNat ≤ v.toNat) : puS v n = decs n.toNat v.toNat ∧ puE v n = 0 := by
  unfold puS puE; rw [if_neg h, if_neg h, if_neg h2, if_neg h2]; exact ⟨rfl, rfl⟩
theorem pl_iff {v n : Int} (h : ¬(n < 1 ∨ 19 < n)) : ((Lib.decDigits v.toNat).length : Int) ≤ n ↔ ¬10 ^ n.toNat ≤ v.toNat := by
  rw [Lib.decDigits_length]
  have := nd_iff (n := n.toNat) (u := v.toNat) (by omega)
  rw [Nat.not_le, ← this]
  omega
theorem rl_len (n : Nat) : (Lib.repeatL [48] n).length = n := by rw [repl_eq, List.length_replicate]
theorem pu_fin {v n : Int} (h : ¬(n < 1 ∨ 19 < n)) (hc : ((Lib.decDigits v.toNat).length : Int) ≤ n) : Lib.repeatL [48] (IntKind.i64.wrap (n - ((Lib.decDigits v.toNat).length : Int))).toNat ++ Lib.decDigits v.toNat = puS v n := by
  rw [(pu3 h ((pl_iff h).1 hc)).1, ← rep_decs n.toNat v.toNat (by omega) (Nat.not_le.1 ((pl_iff h).1 hc)), w64 (by omega), ← Lib.decDigits_length]
  congr 2
  omega
theorem good_gPut (v n : Int) (hv : 0 ≤ v ∧ v < 18446744073709551616) (hn : -9223372036854775808 ≤ n ∧ n < 9223372036854775808) : GoodP Tryd.prog gl0 69 [.int .u64 v, .int .i64 n] (.tup [.str (std.ts fun _ => puS v n), .int .i64 (std.ti fun _ => puE v n)]) := by
  refine fn_sound' (T := seatT) (G := gg3) (X := noX) seatT_ok gg3_ok noX_ok noI_ok mixed Tryd.func69 (.one) (fun A => [.int .u64 v, .int .i64 n]) (fun A => .tup [.str (A.ts fun _ => puS v n), .int .i64 (A.ti fun _ => puE v n)]) fun A hA => ?_
  cbv
  repeat' (first | with_reducible exact True.intro | with_reducible exact dr_ok hA (by kernel_rfl) | with_reducible refine And.intro ?_ ?_ | (intro hc; cbv))
  all_goals (subst hA; simp [std_add, std_sub, std_mul, std_quo, std_rem, std_band, std_bor, std_bxor, std_shl, std_shr, std_eq, std_ne, std_lt, std_le, std_conv, std_not, std_beq, std_bne, std_ite, std_want, std_and2, std_sadd, std_seq, std_sne, std_slt, std_sle, std_sgt, std_sge, std_slen, std_sget, std_scut, std_ofNat, std_toNat, std_nsub, std_nadd, std_lenOf, std_nz, std_nneg, std_inb, std_upto, std_slt63, std_grow, std_imp, std_impN, std_tr, std_tb, std_ti, std_ts, std_tn, std_tp, std_nmin, std_makes, std_room, std_zeros, std_nilq, std_notq, std_eqi, std_eqn, std_eqb, std_eqs, std_eqv, std_cat, std_lst, std_rset, std_rcopy, std_shift, std_eqr, std_strOf, std_bytesOf, std_isB, std_zOf, zOf_int, std_isI, isI_int, std_getL, std_nmul, std_sOf, sOf_str, std_isS, isS_str] at *)
  all_goals first
    | exact (pu1 hc).1
    | exact (pu1 hc).2.symm
    | exact hv
    | (have h : ¬(n < 1 ∨ 19 < n) := by omega
       have hl := pl_iff (v := v) h
       first
         | exact (pu2 h (by omega)).1
         | exact (pu2 h (by omega)).2.symm
         | exact pu_fin h hc
         | exact (pu3 h (hl.1 hc)).2.symm
         | (rw [w64 (by omega)]; constructor <;> omega)
         | (rw [rl_len, w64 (by omega)]; omega))
    | trace_state
theorem rep1 {d : Nat} (h : d < 256) : Reps eB 0 1 1 (lstS [[SV.int .u8 (d : Int)]]) [UInt8.ofNat d] := by
  refine ⟨rfl, fun i j hi hj => .of_eq ?_⟩
  obtain rfl : i = 0 := by omega
  obtain rfl : j = 0 := by omega
  show SV.int .u8 (d : Int) = SV.int .u8 (((UInt8.ofNat d).toNat : Nat) : Int)
  rw [UInt8.toNat_ofNat_of_lt' (by simpa using h)]
theorem so1 {d : Nat} (h : d < 256) : strOfS 1 (lstS [[SV.int .u8 (d : Int)]]) = [UInt8.ofNat d] := strOf_row (rep1 h)
theorem ib1 {d : Nat} (h : d < 256) : isBS 1 (lstS [[SV.int .u8 (d : Int)]]) := isB_row (rep1 h)
theorem chk_hit {L : List UInt8} {d : Nat} (hk : isD L = true) (hd : 48 ≤ d ∧ d ≤ 57) (h : lFine (L ++ [UInt8.ofNat d]) = true) : [UInt8.ofNat d] = chS L := by
  have e : UInt8.ofNat d = dC (d - 48) := by unfold dC; rw [show 48 + (d - 48) = d by omega]
  rw [e, lFine_snoc hk (by omega), decide_eq_true_eq] at h
  rw [e, h, (ch1 hk).1]
theorem chk_end {L : List UInt8} (hk : isD L = true) (hf : ∀ j, 48 ≤ j → j < 57 → lFine (L ++ [UInt8.ofNat j]) = false) : [57] = chS L := by
  have hc : lCheck L < 10 := Nat.mod_lt _ (by omega)
  rw [(ch1 hk).1]
  by_cases h9 : lCheck L = 9
  · rw [h9]; rfl
  · have := hf (48 + lCheck L) (by omega) (by omega)
    have h2 := lFine_snoc hk hc
    unfold dC at h2
    rw [this] at h2
    simp at h2
end Go.Vd

set_option linter.unusedVariables false
set_option linter.unusedSimpArgs false
set_option maxRecDepth 100000
set_option maxHeartbeats 2000000
namespace Go.Vd
open Go.Proofs
theorem decs_push : ∀ (n v : Nat), UInt8.ofNat (48 + v / 10 ^ n % 10) :: decs n v = decs (n + 1) v
  | 0, v => by simp [decs]
  | n + 1, v => by
    have e := decs_push n (v / 10)
    show UInt8.ofNat (48 + v / 10 ^ (n + 1) % 10) :: (decs n (v / 10) ++ [UInt8.ofNat (48 + v % 10)]) = decs (n + 1) (v / 10) ++ [UInt8.ofNat (48 + v % 10)]
    rw [← e, Nat.div_div_eq_div_mul, Nat.pow_succ, Nat.mul_comm 10]
    rfl
theorem cvb (q : Nat) : IntKind.u8.wrap (IntKind.u64.wrap (48 + (q : Int).tmod 10)) = ((48 + q % 10 : Nat) : Int) := by
  rw [Int.tmod_eq_emod_of_nonneg (by omega), wU64' (by omega), wU8' (by omega)]
  omega
theorem so1q (q : Nat) : strOfS 1 (lstS [[SV.int .u8 ((48 + q % 10 : Nat) : Int)]]) = [UInt8.ofNat (48 + q % 10)] := so1 (by omega)
theorem ib1q (q : Nat) : isBS 1 (lstS [[SV.int .u8 ((48 + q % 10 : Nat) : Int)]]) := ib1 (by omega)
theorem q_lt {V i : Nat} (h : V < 18446744073709551616) : V / 10 ^ i < 18446744073709551616 := Nat.lt_of_le_of_lt (Nat.div_le_self _ _) h
theorem q_step (V i : Nat) : V / 10 ^ i / 10 = V / 10 ^ (i + 1) := by rw [Nat.div_div_eq_div_mul, Nat.pow_succ]
theorem q_end (V n : Nat) : V / 10 ^ n = 0 ↔ ¬10 ^ n ≤ V := by
  rw [Nat.div_eq_zero_iff, Nat.not_le]
  have : 0 < 10 ^ n := Nat.pow_pos (by omega)
  omega
theorem so1z (q : Nat) : strOfS 1 (lstS [[SV.int .u8 (48 + (q : Int) % 10)]]) = [UInt8.ofNat (48 + q % 10)] := by
  have h := so1q q
  rw [show ((48 + q % 10 : Nat) : Int) = 48 + (q : Int) % 10 by omega] at h
  exact h
theorem ib1z (q : Nat) : isBS 1 (lstS [[SV.int .u8 (48 + (q : Int) % 10)]]) := by
  have h := ib1q q
  rw [show ((48 + q % 10 : Nat) : Int) = 48 + (q : Int) % 10 by omega] at h
  exact h
theorem pu_end {V i q : Nat} {n : Int} {S : List UInt8} (hk : ¬(n < 1 ∨ 19 < n)) (hq : q = V / 10 ^ i) (hS : S = decs i V) (hin : (i : Int) = n) : (¬q = 0 → puS (V : Int) n = [] ∧ puE (V : Int) n = 10) ∧ (q = 0 → puS (V : Int) n = S ∧ puE (V : Int) n = 0) := by
  have hi : i = n.toNat := by omega
  have hz := q_end V n.toNat
  rw [hi] at hq hS
  have hV : ((V : Int)).toNat = V := Int.toNat_natCast V
  constructor
  · intro h
    refine pu2 hk ?_
    rw [hV]
    rw [hq] at h
    omega
  · intro h
    rw [hq] at h
    have h3 := pu3 (v := (V : Int)) hk (by rw [hV]; exact hz.1 h)
    rw [hV] at h3
    rw [hS]
    exact h3
theorem e1_q {q q' : Nat} (h : q < 18446744073709551616) (e : q' = q / 10) : IntKind.u64.wrap ((q : Int) / 10) = (q' : Int) := by
  rw [wU64' (n := (q : Int) / 10) (by omega)]; omega
theorem e2_q {i i' : Nat} {n : Int} (h : (i : Int) < n) (hn : n ≤ 19) (e : i' = i + 1) : IntKind.i64.wrap ((i : Int) + 1) = (i' : Int) := by
  rw [w64 (n := (i : Int) + 1) (by omega)]; omega
theorem good_rPut (V : Nat) (n : Int) (hv : V < 18446744073709551616) (hn : -9223372036854775808 ≤ n ∧ n < 9223372036854775808) : GoodP Tryd.prog gl0 151 [.int .u64 (V : Nat), .int .i64 n] (.tup [.str (std.ts fun _ => puS (V : Int) n), .int .i64 (std.ti fun _ => puE (V : Int) n)]) := by
  refine fn_sound' (T := seatT) (G := gg3) (X := noX) seatT_ok gg3_ok noX_ok noI_ok mixed Tryd.func151 (.one) (fun A => [.int .u64 (V : Nat), .int .i64 n]) (fun A => .tup [.str (A.ts fun _ => puS (V : Int) n), .int .i64 (A.ti fun _ => puE (V : Int) n)]) fun A hA => ?_
  cbv
  repeat' (first | with_reducible exact True.intro | with_reducible exact dr_ok hA (by kernel_rfl) | with_reducible refine And.intro ?_ ?_ | (intro hc; cbv))
  rotate_right
  · have hk : ¬(n < 1 ∨ 19 < n) := by
      subst hA
      simp [std_add, std_sub, std_mul, std_quo, std_rem, std_band, std_bor, std_bxor, std_shl, std_shr, std_eq, std_ne, std_lt, std_le, std_conv, std_not, std_beq, std_bne, std_ite, std_want, std_and2, std_sadd, std_seq, std_sne, std_slt, std_sle, std_sgt, std_sge, std_slen, std_sget, std_scut, std_ofNat, std_toNat, std_nsub, std_nadd, std_lenOf, std_nz, std_nneg, std_inb, std_upto, std_slt63, std_grow, std_imp, std_impN, std_tr, std_tb, std_ti, std_ts, std_tn, std_tp, std_nmin, std_makes, std_room, std_zeros, std_nilq, std_notq, std_eqi, std_eqn, std_eqb, std_eqs, std_eqv, std_cat, std_lst, std_rset, std_rcopy, std_shift, std_eqr, std_strOf, std_bytesOf, std_isB, std_zOf, zOf_int, std_isI, isI_int, std_getL, std_nmul, std_sOf, sOf_str, std_isS, isS_str] at hc
      omega
    clear hc
    refine ⟨⟨{p : Nat × Nat × List UInt8 // (p.1 : Int) ≤ n ∧ p.2.1 = V / 10 ^ p.1 ∧ p.2.2 = decs p.1 V}, fun b p => [(0, .int .u64 (p.1.2.1 : Nat)), (6, .str p.1.2.2), (7, .int .i64 (p.1.1 : Nat))], fun b p => [], fun p => n.toNat - p.1.1, true⟩, ⟨⟨(0, V, []), by omega, by simp, rfl⟩, ?_⟩, ?_⟩
    · cbv
      subst hA
      simp [-List.getD_eq_getElem?_getD, std_add, std_sub, std_mul, std_quo, std_rem, std_band, std_bor, std_bxor, std_shl, std_shr, std_eq, std_ne, std_lt, std_le, std_conv, std_not, std_beq, std_bne, std_ite, std_want, std_and2, std_sadd, std_seq, std_sne, std_slt, std_sle, std_sgt, std_sge, std_slen, std_sget, std_scut, std_ofNat, std_toNat, std_nsub, std_nadd, std_lenOf, std_nz, std_nneg, std_inb, std_upto, std_slt63, std_grow, std_imp, std_impN, std_tr, std_tb, std_ti, std_ts, std_tn, std_tp, std_nmin, std_makes, std_room, std_zeros, std_nilq, std_notq, std_eqi, std_eqn, std_eqb, std_eqs, std_eqv, std_cat, std_lst, std_rset, std_rcopy, std_shift, std_eqr, std_strOf, std_bytesOf, std_isB, std_zOf, zOf_int, std_isI, isI_int, std_getL, std_nmul, std_sOf, sOf_str, std_isS, isS_str]
    · rintro ⟨⟨i, q, S⟩, hi, hq, hS⟩
      simp only at hi hq hS
      have hq8 : q < 18446744073709551616 := by rw [hq]; exact q_lt hv
      have hSl : S.length = i := by rw [hS, decs_len]
      cbv
      repeat' (first | with_reducible exact True.intro | with_reducible exact dr_ok hA (by kernel_rfl) | with_reducible refine And.intro ?_ ?_ | (intro hc; cbv))
      all_goals first
        | (fail_if_success (refine Exists.intro ?_ ?_)
           subst hA
           simp [std_add, std_sub, std_mul, std_quo, std_rem, std_band, std_bor, std_bxor, std_shl, std_shr, std_eq, std_ne, std_lt, std_le, std_conv, std_not, std_beq, std_bne, std_ite, std_want, std_and2, std_sadd, std_seq, std_sne, std_slt, std_sle, std_sgt, std_sge, std_slen, std_sget, std_scut, std_ofNat, std_toNat, std_nsub, std_nadd, std_lenOf, std_nz, std_nneg, std_inb, std_upto, std_slt63, std_grow, std_imp, std_impN, std_tr, std_tb, std_ti, std_ts, std_tn, std_tp, std_nmin, std_makes, std_room, std_zeros, std_nilq, std_notq, std_eqi, std_eqn, std_eqb, std_eqs, std_eqv, std_cat, std_lst, std_rset, std_rcopy, std_shift, std_eqr, std_strOf, std_bytesOf, std_isB, std_zOf, zOf_int, std_isI, isI_int, std_getL, std_nmul, std_sOf, sOf_str, std_isS, isS_str, cvb, so1z q, ib1z q, hSl] at hc ⊢ <;> first
             | omega
             | skip)
        | skip
      all_goals (try (rename_i c2; have c3 : n ≤ (i : Int) := (by simp [std_add, std_sub, std_mul, std_quo, std_rem, std_band, std_bor, std_bxor, std_shl, std_shr, std_eq, std_ne, std_lt, std_le, std_conv, std_not, std_beq, std_bne, std_ite, std_want, std_and2, std_sadd, std_seq, std_sne, std_slt, std_sle, std_sgt, std_sge, std_slen, std_sget, std_scut, std_ofNat, std_toNat, std_nsub, std_nadd, std_lenOf, std_nz, std_nneg, std_inb, std_upto, std_slt63, std_grow, std_imp, std_impN, std_tr, std_tb, std_ti, std_ts, std_tn, std_tp, std_nmin, std_makes, std_room, std_zeros, std_nilq, std_notq, std_eqi, std_eqn, std_eqb, std_eqs, std_eqv, std_cat, std_lst, std_rset, std_rcopy, std_shift, std_eqr, std_strOf, std_bytesOf, std_isB, std_zOf, zOf_int, std_isI, isI_int, std_getL, std_nmul, std_sOf, sOf_str, std_isS, isS_str] at c2; exact c2); have hE := pu_end hk hq hS (Int.le_antisymm hi c3); first | exact (hE.1 hc).1 | exact (hE.1 hc).2.symm | exact (hE.2 hc).1.symm | exact (hE.2 hc).2.symm))
      have hlt : (i : Int) < n := by
        subst hA
        simp [std_add, std_sub, std_mul, std_quo, std_rem, std_band, std_bor, std_bxor, std_shl, std_shr, std_eq, std_ne, std_lt, std_le, std_conv, std_not, std_beq, std_bne, std_ite, std_want, std_and2, std_sadd, std_seq, std_sne, std_slt, std_sle, std_sgt, std_sge, std_slen, std_sget, std_scut, std_ofNat, std_toNat, std_nsub, std_nadd, std_lenOf, std_nz, std_nneg, std_inb, std_upto, std_slt63, std_grow, std_imp, std_impN, std_tr, std_tb, std_ti, std_ts, std_tn, std_tp, std_nmin, std_makes, std_room, std_zeros, std_nilq, std_notq, std_eqi, std_eqn, std_eqb, std_eqs, std_eqv, std_cat, std_lst, std_rset, std_rcopy, std_shift, std_eqr, std_strOf, std_bytesOf, std_isB, std_zOf, zOf_int, std_isI, isI_int, std_getL, std_nmul, std_sOf, sOf_str, std_isS, isS_str] at hc
        exact hc
      obtain ⟨i', hi'⟩ : ∃ i', i' = i + 1 := ⟨_, rfl⟩
      obtain ⟨q', hq'⟩ : ∃ q', q' = q / 10 := ⟨_, rfl⟩
      have e1 : IntKind.u64.wrap ((q : Int) / 10) = (q' : Int) := e1_q hq8 hq'
      have e2 : IntKind.i64.wrap ((i : Int) + 1) = (i' : Int) := e2_q (n := n) hlt (by omega) hi'
      obtain ⟨S', hS'⟩ : ∃ S', S' = UInt8.ofNat (48 + q % 10) :: S := ⟨_, rfl⟩
      refine ⟨⟨(i', q', S'), by (show (i' : Int) ≤ n); omega, by (show q' = V / 10 ^ i'); rw [hq', hq, hi', q_step], by (show S' = decs i' V); rw [hS', hi', hS, hq, decs_push]⟩, ?_, show n.toNat - i' < n.toNat - i by omega⟩
      cbv
      subst hA
      simp [-UInt8.ofNat_add, std_add, std_sub, std_mul, std_quo, std_rem, std_band, std_bor, std_bxor, std_shl, std_shr, std_eq, std_ne, std_lt, std_le, std_conv, std_not, std_beq, std_bne, std_ite, std_want, std_and2, std_sadd, std_seq, std_sne, std_slt, std_sle, std_sgt, std_sge, std_slen, std_sget, std_scut, std_ofNat, std_toNat, std_nsub, std_nadd, std_lenOf, std_nz, std_nneg, std_inb, std_upto, std_slt63, std_grow, std_imp, std_impN, std_tr, std_tb, std_ti, std_ts, std_tn, std_tp, std_nmin, std_makes, std_room, std_zeros, std_nilq, std_notq, std_eqi, std_eqn, std_eqb, std_eqs, std_eqv, std_cat, std_lst, std_rset, std_rcopy, std_shift, std_eqr, std_strOf, std_bytesOf, std_isB, std_zOf, zOf_int, std_isI, isI_int, std_getL, std_nmul, std_sOf, sOf_str, std_isS, isS_str, cvb, so1z q]
      first
        | exact ⟨e1, hS'.symm, e2⟩
        | (rw [hS']; exact ⟨e1, rfl, e2⟩)
  all_goals (subst hA; simp [std_add, std_sub, std_mul, std_quo, std_rem, std_band, std_bor, std_bxor, std_shl, std_shr, std_eq, std_ne, std_lt, std_le, std_conv, std_not, std_beq, std_bne, std_ite, std_want, std_and2, std_sadd, std_seq, std_sne, std_slt, std_sle, std_sgt, std_sge, std_slen, std_sget, std_scut, std_ofNat, std_toNat, std_nsub, std_nadd, std_lenOf, std_nz, std_nneg, std_inb, std_upto, std_slt63, std_grow, std_imp, std_impN, std_tr, std_tb, std_ti, std_ts, std_tn, std_tp, std_nmin, std_makes, std_room, std_zeros, std_nilq, std_notq, std_eqi, std_eqn, std_eqb, std_eqs, std_eqv, std_cat, std_lst, std_rset, std_rcopy, std_shift, std_eqr, std_strOf, std_bytesOf, std_isB, std_zOf, zOf_int, std_isI, isI_int, std_getL, std_nmul, std_sOf, sOf_str, std_isS, isS_str] at *)
  all_goals first
    | exact (pu1 hc).1
    | exact (pu1 hc).2.symm
    | trace_state
end Go.Vd

set_option linter.unusedVariables false
set_option linter.unusedSimpArgs false
set_option maxRecDepth 100000
set_option maxHeartbeats 2000000
namespace Go.Vd
open Go.Proofs
theorem good_rPut' (v n : Int) (hv : 0 ≤ v ∧ v < 18446744073709551616) (hn : -9223372036854775808 ≤ n ∧ n < 9223372036854775808) : GoodP Tryd.prog gl0 151 [.int .u64 v, .int .i64 n] (.tup [.str (std.ts fun _ => puS v n), .int .i64 (std.ti fun _ => puE v n)]) := by
  obtain ⟨V, rfl⟩ : ∃ V : Nat, v = V := ⟨v.toNat, by omega⟩
  exact good_rPut V n (by omega) hn
noncomputable def c_gPut : Ct := fun A args => match args with
  | [.int .u64 v, .int .i64 n] => some (some (A.tp fun _ => (0 ≤ v ∧ v < 18446744073709551616) ∧ (-9223372036854775808 ≤ n ∧ n < 9223372036854775808)), .tup [.str (A.ts fun _ => puS v n), .int .i64 (A.ti fun _ => puE v n)])
  | _ => none
noncomputable def c_rPut : Ct := fun A args => match args with
  | [.int .u64 v, .int .i64 n] => some (some (A.tp fun _ => (0 ≤ v ∧ v < 18446744073709551616) ∧ (-9223372036854775808 ≤ n ∧ n < 9223372036854775808)), .tup [.str (A.ts fun _ => puS v n), .int .i64 (A.ti fun _ => puE v n)])
  | _ => none
noncomputable def c_gGet : Ct := fun A args => match args with
  | [.str L] => some (none, .tup [.int .u64 (A.ti fun _ => (gVal L : Int)), .int .i64 (A.ti fun _ => gErr L)])
  | _ => none
noncomputable def c_rGet : Ct := fun A args => match args with
  | [.str L] => some (none, .tup [.int .u64 (A.ti fun _ => (gVal L : Int)), .int .i64 (A.ti fun _ => gErr L)])
  | _ => none
noncomputable def c_gCheck : Ct := fun A args => match args with
  | [.str L] => some (some (A.tp fun _ => L.length ≤ 50000), .tup [.str (A.ts fun _ => chS L), .int .i64 (A.ti fun _ => chE L)])
  | _ => none
noncomputable def gg4 : Ar → Pu := addC 69 c_gPut (addC 151 c_rPut (addC 70 c_gGet (addC 103 c_rGet (addC 16 c_gCheck (gg3)))))
theorem gg4_ok : PuOk Tryd.prog gl0 (gg4 std) := by
  refine addC_ok (addC_ok (addC_ok (addC_ok (addC_ok (gg3_ok) ⟨_, Tryd.func16, rfl, by decide⟩ ?_) ⟨_, Tryd.func103, rfl, by decide⟩ ?_) ⟨_, Tryd.func70, rfl, by decide⟩ ?_) ⟨_, Tryd.func151, rfl, by decide⟩ ?_) ⟨_, Tryd.func69, rfl, by decide⟩ ?_
  · intro args p r h hp
    unfold c_gCheck at h
    split at h <;> cases h
    exact good_gCheck _ hp
  · intro args p r h hp
    unfold c_rGet at h
    split at h <;> cases h
    exact good_rGet _
  · intro args p r h hp
    unfold c_gGet at h
    split at h <;> cases h
    exact good_gGet _
  · intro args p r h hp
    unfold c_rPut at h
    split at h <;> cases h
    exact good_rPut' _ _ hp.1 hp.2
  · intro args p r h hp
    unfold c_gPut at h
    split at h <;> cases h
    exact good_gPut _ _ hp.1 hp.2
theorem aw1 : puS 42 5 = [48, 48, 48, 52, 50] ∧ puE 42 5 = 0 ∧ puE 100 2 = 10 := by decide +kernel
theorem aw2 : (gVal [48, 48, 48, 52, 50] : Int) = 42 ∧ gErr [48, 48, 48, 52, 50] = 0 := by decide +kernel
theorem aw3 : chS [55, 57, 57, 50, 55, 51, 57, 56, 55, 49] = [51] ∧ chE [55, 57, 57, 50, 55, 51, 57, 56, 55, 49] = 0 := by decide +kernel
theorem aw4 : lFine [55, 57, 57, 50, 55, 51, 57, 56, 55, 49, 51] = true ∧ lFine [55, 57, 57, 50, 55, 51, 57, 56, 55, 49, 50] = false ∧ isD [48] = true := by decide +kernel
theorem good_awake  : GoodP Tryd.prog gl0 15 [] (.bool true) := by
  refine fn_sound' (T := seatT) (G := gg4) (X := noX) seatT_ok gg4_ok noX_ok noI_ok mixed Tryd.func15 (.one) (fun A => []) (fun A => .bool true) fun A hA => ?_
  cbv
  repeat' (first | with_reducible exact True.intro | with_reducible exact dr_ok hA (by kernel_rfl) | with_reducible refine And.intro ?_ ?_ | (intro hc; cbv))
  all_goals (subst hA; simp [std_add, std_sub, std_mul, std_quo, std_rem, std_band, std_bor, std_bxor, std_shl, std_shr, std_eq, std_ne, std_lt, std_le, std_conv, std_not, std_beq, std_bne, std_ite, std_want, std_and2, std_sadd, std_seq, std_sne, std_slt, std_sle, std_sgt, std_sge, std_slen, std_sget, std_scut, std_ofNat, std_toNat, std_nsub, std_nadd, std_lenOf, std_nz, std_nneg, std_inb, std_upto, std_slt63, std_grow, std_imp, std_impN, std_tr, std_tb, std_ti, std_ts, std_tn, std_tp, std_nmin, std_makes, std_room, std_zeros, std_nilq, std_notq, std_eqi, std_eqn, std_eqb, std_eqs, std_eqv, std_cat, std_lst, std_rset, std_rcopy, std_shift, std_eqr, std_strOf, std_bytesOf, std_isB, std_zOf, zOf_int, std_isI, isI_int, std_getL, std_nmul, std_sOf, sOf_str, std_isS, isS_str, aw1, aw2, aw3, aw4] at *)
  all_goals trace_state
noncomputable def c_awake : Ct := fun A args => match args with
  | [] => some (none, .bool true)
  | _ => none
noncomputable def gg5 : Ar → Pu := addC 15 c_awake (gg4)
theorem gg5_ok : PuOk Tryd.prog gl0 (gg5 std) := by
  refine addC_ok (gg4_ok) ⟨_, Tryd.func15, rfl, by decide⟩ ?_
  · intro args p r h hp
    unfold c_awake at h
    split at h <;> cases h
    exact good_awake
end Go.Vd

set_option linter.unusedVariables false
set_option linter.unusedSimpArgs false
set_option maxRecDepth 100000
set_option maxHeartbeats 4000000
namespace Go.Vd
open Go.Proofs
theorem gD {L : List UInt8} {i : Nat} : L[i]?.getD 0 = L.getD i 0 := (List.getD_eq_getElem?_getD ..).symm
def FL : List Int := [2, 3, 19, 3, 1, 6, 4, 1, 12, 7, 1, 10, 11, 1, 6, 12, 1, 6, 37, 2, 12, 38, 2, 6, 39, 2, 2, 41, 2, 8, 44, 4, 25, 48, 5, 999, 49, 1, 3, 90, 1, 42, 120, 5, 999]
def dFind : List Int → Int → Option (Int × Int)
  | a :: b :: c :: r, n => if a = n then some (b, c) else dFind r n
  | _, _ => none
def dOk (n : Int) : Bool := (dFind FL n).isSome
def dKd (n : Int) : Int := ((dFind FL n).getD (0, 0)).1
def dSz (n : Int) : Int := ((dFind FL n).getD (0, 0)).2
theorem drop3 {L : List Int} {i : Nat} (h : i + 2 < L.length) : L.drop i = L.getD i 0 :: L.getD (i + 1) 0 :: L.getD (i + 2) 0 :: L.drop (i + 3) := by
  have e : ∀ {j : Nat} (hj : j < L.length), L[j] = L.getD j 0 := fun hj => by rw [List.getD_eq_getElem?_getD, List.getElem?_eq_getElem hj]; rfl
  rw [List.drop_eq_getElem_cons (by omega), List.drop_eq_getElem_cons (by omega), List.drop_eq_getElem_cons h, e, e, e]
theorem FL_len : FL.length = 45 := rfl
theorem all2_map : ∀ L : List Int, All2 (fun c x => ∀ j, j < 1 → Ceq (getAt c j) (getAt (eZ std fun _ => x) j)) (L.map fun z => [SV.int .i64 z]) L
  | [] => trivial
  | x :: l => ⟨cell_eZ x, all2_map l⟩
theorem FL_rep : Reps eZ 0 1 45 (lstS (FL.map fun z => [SV.int .i64 z])) FL := Reps.lst (all2_map FL)
theorem good_rFields  : GoodP Tryd.prog gl0 174 [] (rowS eZ 0 1 std fun _ => FL) := by
  refine fn_sound' (T := seatT) (G := noC) (X := noX) seatT_ok noC_ok noX_ok noI_ok mixed Tryd.func174 (.none) (fun A => []) (fun A => rowS eZ 0 1 A fun _ => FL) fun A hA => ?_
  cbv
  repeat' (first | with_reducible exact True.intro | with_reducible exact dr_ok hA (by kernel_rfl) | with_reducible refine And.intro ?_ ?_ | (intro hc; cbv))
  all_goals (subst hA; simp only [sS])
  · rfl
  · exact FL_rep.eqr
noncomputable def c_rFields : Ct := fun A args => match args with
  | [] => some (none, rowS eZ 0 1 A fun _ => FL)
  | _ => none
noncomputable def gh1 : Ar → Pu := addC 174 c_rFields (gg4)
theorem gh1_ok : PuOk Tryd.prog gl0 (gh1 std) := by
  refine addC_ok (gg4_ok) ⟨_, Tryd.func174, rfl, by decide⟩ ?_
  · intro args p r h hp
    unfold c_rFields at h
    split at h <;> cases h
    exact good_rFields
theorem good_rDef (n : Int) : GoodP Tryd.prog gl0 129 [.int .i64 n] (.tup [.agg [.int .i64 (std.ti fun _ => if dOk n then n else 0), .int .i64 (std.ti fun _ => dKd n), .int .i64 (std.ti fun _ => dSz n)], .bool (std.tb fun _ => dOk n)]) := by
  refine fn_sound' (T := seatT) (G := gh1) (X := noX) seatT_ok gh1_ok noX_ok noI_ok mixed Tryd.func129 (.one) (fun A => [.int .i64 n]) (fun A => .tup [.agg [.int .i64 (A.ti fun _ => if dOk n then n else 0), .int .i64 (A.ti fun _ => dKd n), .int .i64 (A.ti fun _ => dSz n)], .bool (A.tb fun _ => dOk n)]) fun A hA => ?_
  cbv
  repeat' (first | with_reducible exact True.intro | with_reducible exact dr_ok hA (by kernel_rfl) | with_reducible refine And.intro ?_ ?_ | (intro hc; cbv))
  refine ⟨⟨{p : Nat × Nat // p.1 ≤ 15 ∧ p.2 = 3 * p.1 ∧ dFind FL n = dFind (FL.drop p.2) n}, fun b p => [(5, .int .i64 (p.1.2 : Nat))], fun b p => [], fun p => 15 - p.1.1, true⟩, ⟨⟨(0, 0), by omega, rfl, rfl⟩, ?_⟩, ?_⟩
  · cbv
    subst hA
    simp [-List.getD_eq_getElem?_getD, sS]
  · rintro ⟨⟨j, i⟩, hj, hi, hd⟩
    simp only at hj hi hd
    have hL := FL_len
    cbv
    repeat' (first | with_reducible exact True.intro | with_reducible exact dr_ok hA (by kernel_rfl) | with_reducible refine And.intro ?_ ?_ | (intro hc; cbv))
    all_goals first
      | (fail_if_success (refine Exists.intro ?_ ?_)
         subst hA
         simp [-List.getD_eq_getElem?_getD, sS, hL] at *
         first
           | omega
           | (rw [w64 (by omega)]; omega)
           | (constructor <;> (rw [w64 (by omega)]; omega))
           | (have hq : FL.getD i 0 = n := by assumption
              rw [drop3 (by rw [FL_len]; omega)] at hd
              simp only [dFind, if_pos hq] at hd
              have e1 : (IntKind.i64.wrap ((i : Int) + 1)).toNat = i + 1 := by rw [w64 (by omega)]; omega
              have e2 : (IntKind.i64.wrap ((i : Int) + 2)).toNat = i + 2 := by rw [w64 (by omega)]; omega
              simp [-List.getD_eq_getElem?_getD, dOk, dKd, dSz, hd, hq, e1, e2]; done)
           | (have hie : i = 45 := by omega
              rw [hie] at hd
              have hn : dFind (FL.drop 45) n = none := rfl
              rw [hn] at hd
              simp [dOk, dKd, dSz, hd]; done)
           | trace_state)
      | (have hlt : i < 45 := by clear hd; subst hA; simp [sS, hL] at *; omega
         have h0 : ¬FL.getD i 0 = n := by subst hA; simpa [-List.getD_eq_getElem?_getD, sS] using hc
         obtain ⟨i', hi'⟩ : ∃ i', i' = i + 3 := ⟨_, rfl⟩
         rw [drop3 (by rw [hL]; omega)] at hd
         simp only [dFind, if_neg h0] at hd
         refine ⟨⟨(j + 1, i'), by omega, by omega, by rw [hi', hd]⟩, ?_, show 15 - (j + 1) < 15 - j by omega⟩
         cbv
         subst hA
         simp [sS]
         exact (w64 (by omega)).trans (by omega))
      | trace_state
theorem good_rSigns (k : Int) (r : List UInt8) (hr : r.length ≤ 1000000) : GoodP Tryd.prog gl0 130 [.int .i64 k, .str r] (.bool (std.tb fun _ => signs k r)) := by
  refine fn_sound' (T := seatT) (G := gh1) (X := noX) seatT_ok gh1_ok noX_ok noI_ok mixed Tryd.func130 (.one) (fun A => [.int .i64 k, .str r]) (fun A => .bool (A.tb fun _ => signs k r)) fun A hA => ?_
  cbv
  repeat' (first | with_reducible exact True.intro | with_reducible exact dr_ok hA (by kernel_rfl) | with_reducible refine And.intro ?_ ?_ | (intro hc; cbv))
  refine ⟨⟨{i : Nat // i ≤ r.length ∧ (r.take i).all (inS k) = true}, fun b i => [(5, .int .i64 (i.1 : Nat))], fun b i => [], fun i => r.length - i.1, true⟩, ⟨⟨0, by omega, by simp⟩, ?_⟩, ?_⟩
  · cbv
    subst hA
    simp [-List.getD_eq_getElem?_getD, sS]
  · rintro ⟨i, hi, hz⟩
    cbv
    repeat' (first | with_reducible exact True.intro | with_reducible exact dr_ok hA (by kernel_rfl) | with_reducible refine And.intro ?_ ?_ | (intro hc; cbv))
    all_goals first
      | (fail_if_success (refine Exists.intro ?_ ?_)
         subst hA
         simp [-List.getD_eq_getElem?_getD, sS, gD] at *
         done)
      | (fail_if_success (refine Exists.intro ?_ ?_)
         subst hA
         simp [-List.getD_eq_getElem?_getD, sS, gD] at *
         first
           | omega
           | (constructor <;> omega)
           | (intros; (first | omega | (refine ⟨by omega, ?_⟩; omega)))
           | (have hlt : i < r.length := by omega
              have hx : inS k (r.getD i 0) = false := by (unfold inS; split <;> simp [-List.getD_eq_getElem?_getD, isDb, okB] <;> omega)
              rw [signs, all_false hlt hx]; done)
           | (have hie : i = r.length := by omega
              subst hie
              rw [signs, List.all_eq_true]; simpa using hz)
           | trace_state)
      | (have hlt : i < r.length := by clear hz; subst hA; simp [sS] at *; omega
         have hx : inS k (r.getD i 0) = true := by
           clear hz
           subst hA
           simp [-List.getD_eq_getElem?_getD, sS, gD] at *
           unfold inS
           split <;> simp [-List.getD_eq_getElem?_getD, isDb, okB] <;> omega
         refine ⟨⟨i + 1, by omega, by rw [all_take hlt, hz, hx]; rfl⟩, ?_, show r.length - (i + 1) < r.length - i by omega⟩
         cbv
         subst hA
         simp [sS]
         exact w64 (by omega))
      | trace_state

theorem lt15 {i : Nat} (h : i < 15) : i = 0 ∨ i = 1 ∨ i = 2 ∨ i = 3 ∨ i = 4 ∨ i = 5 ∨ i = 6 ∨ i = 7 ∨ i = 8 ∨ i = 9 ∨ i = 10 ∨ i = 11 ∨ i = 12 ∨ i = 13 ∨ i = 14 := by omega
theorem good_gDef (n : Int) : GoodP Tryd.prog gl0 131 [.int .i64 n] (.tup [.agg [.int .i64 (std.ti fun _ => if dOk n then n else 0), .int .i64 (std.ti fun _ => dKd n), .int .i64 (std.ti fun _ => dSz n)], .bool (std.tb fun _ => dOk n)]) := by
  refine fn_sound' (T := seatT) (G := noC) (X := noX) seatT_ok noC_ok noX_ok noI_ok mixed Tryd.func131 (.one) (fun A => [.int .i64 n]) (fun A => .tup [.agg [.int .i64 (A.ti fun _ => if dOk n then n else 0), .int .i64 (A.ti fun _ => dKd n), .int .i64 (A.ti fun _ => dSz n)], .bool (A.tb fun _ => dOk n)]) fun A hA => ?_
  cbv
  repeat' (first | with_reducible exact True.intro | with_reducible exact dr_ok hA (by kernel_rfl) | with_reducible refine And.intro ?_ ?_ | (intro hc; cbv))
  refine ⟨⟨{i : Nat // i ≤ 15 ∧ dFind FL n = dFind (FL.drop (3 * i)) n}, fun b i => [(7, .int .i64 (i.1 : Nat))], fun b i => [], fun i => 15 - i.1, true⟩, ⟨⟨0, by omega, rfl⟩, ?_⟩, ?_⟩
  · cbv
    subst hA
    simp [-List.getD_eq_getElem?_getD, sS]
  · rintro ⟨i, hi, hd⟩
    cbv
    repeat' (first | with_reducible exact True.intro | with_reducible exact dr_ok hA (by kernel_rfl) | with_reducible refine And.intro ?_ ?_ | (intro hc; cbv))
    all_goals first
      | (fail_if_success (refine Exists.intro ?_ ?_)
         subst hA
         have hlt : i < 15 := by (clear hd; simp [sS] at *; omega)
         rcases lt15 hlt with h | h | h | h | h | h | h | h | h | h | h | h | h | h | h <;> subst h <;> first
           | (simp [sS, getAt, isI_int]; done)
           | (simp [sS, getAt] at hc ⊢; subst hc; decide)
           | trace_state)
      | (fail_if_success (refine Exists.intro ?_ ?_)
         subst hA
         have hie : i = 15 := by (simp [sS] at *; omega)
         rw [hie, show dFind (FL.drop (3 * 15)) n = none from rfl] at hd
         simp [sS, dOk, dKd, dSz, hd]; done)
      | (have hlt : i < 15 := by (clear hd; subst hA; simp [sS] at *; omega)
         obtain ⟨i', hi'⟩ : ∃ i', i' = i + 1 := ⟨_, rfl⟩
         refine ⟨⟨i', by omega, ?_⟩, ?_, show 15 - i' < 15 - i by omega⟩
         · subst hA hi'
           rw [hd]
           rcases lt15 hlt with h | h | h | h | h | h | h | h | h | h | h | h | h | h | h <;> subst h <;> simp [sS, getAt] at hc <;> simp [FL, dFind, hc]
         · cbv
           subst hA
           simp [sS]
           exact (w64 (by omega)).trans (by omega))
      | trace_state
end Go.Vd

set_option linter.unusedVariables false
set_option linter.unusedSimpArgs false
namespace Go.Proofs
open Go.RowKit
theorem ba_byte {s : ByteArray} {i : Nat} (h : i < s.size) : s[i]'h = s.data.toList.getD i 0 := by
  rw [List.getD_eq_getElem?_getD, List.getElem?_eq_getElem (by simpa using h)]
  simp
  rfl
set_option maxRecDepth 100000 in
set_option maxHeartbeats 2000000 in
theorem isText_walk (s : ByteArray) (w : World) :
    Calls Tryd.prog 175 #[.string s] w fun e w' => e = .returned (.bool (s.data.toList.all Vd.okB)) ∧ ∃ pos, w' = w.iter s pos := by
  have hsz : s.data.toList.length = s.size := by simp
  go_enter Tryd.func175, Tryd.ntmps175
  go_wp2
  go_loopw [4] (fun _ w' => ∃ pos : Nat, w' = w.iter s pos ∧ pos ≤ s.size ∧ (s.data.toList.take pos).all Vd.okB = true) (fun _ w' => s.size - w'.iterPos w.heap.size)
  case atStart => exact ⟨0, rfl, by omega, by simp⟩
  case round =>
    obtain ⟨pos, rfl, hle, hall⟩ := hrel
    by_cases hp : pos < s.size
    · by_cases ha : (s[pos]'hp).toNat < 128
      · have hp' : pos < s.data.size := hp
        have hnx : ∀ ty, (Instr.next (.pointer (some ⟨w.heap.size, 0, none⟩)) true ty).run Tryd.prog (w.iter s pos) = .ok (.tuple #[.bool true, .int .i64 pos, .int .i32 ((s.data[pos]'hp').toNat : Int)]) (w.iter s (pos + 1)) := fun ty => run_next_ascii w s pos ty hp ha
        have hb : s.data[pos]'hp' = s.data.toList.getD pos 0 := ba_byte hp
        have hok : Vd.okB (s.data[pos]'hp') = true ↔ 32 ≤ (s.data[pos]'hp').toNat ∧ (s.data[pos]'hp').toNat ≤ 126 := by simp [Vd.okB]
        have hno : Vd.okB (s.data[pos]'hp') = false → s.data.toList.all Vd.okB = false := fun h => Vd.all_false (i := pos) (by omega) (by rw [← hb]; exact h)
        by_cases h1 : (((s.data[pos]'hp').toNat : Nat) : Int) < 32
        · have hf := hno (by cases h : Vd.okB (s.data[pos]'hp'); rfl; have := hok.1 h; omega)
          clear hok hno hb
          go_wp2
          go_ret
          exact ⟨by first | rfl | (rw [hf]; rfl), _, rfl⟩
        · by_cases h2 : (126 : Int) < (((s.data[pos]'hp').toNat : Nat) : Int)
          · have hf := hno (by cases h : Vd.okB (s.data[pos]'hp'); rfl; have := hok.1 h; omega)
            clear hok hno hb
            go_wp2
            go_ret
            exact ⟨by first | rfl | (rw [hf]; rfl), _, rfl⟩
          · have hy : (s.data.toList.take (pos + 1)).all Vd.okB = true := by
              rw [Vd.all_take (by omega), hall, ← hb, hok.2 (by omega)]
              rfl
            clear hok hno hb
            go_wp2
            go_roundw
            case rel => exact ⟨pos + 1, rfl, by omega, hy⟩
            case measure =>
              simp
              omega
      · have hd := decode_high s pos hp (by omega)
        have hnx : ∀ ty, (Instr.next (.pointer (some ⟨w.heap.size, 0, none⟩)) true ty).run Tryd.prog (w.iter s pos) = _ := fun ty => run_next_any w s pos ty hp
        have hb := ba_byte hp
        have hno : s.data.toList.all Vd.okB = false := Vd.all_false (i := pos) (by omega) (by
          rw [← hb]
          simp [Vd.okB]
          omega)
        generalize (Utf8.decode s pos).1 = r at *
        have h1 : ¬ ((r : Nat) : Int) < 32 := by omega
        have h2 : (126 : Int) < ((r : Nat) : Int) := by omega
        go_wp2
        go_ret
        exact ⟨by first | rfl | (rw [hno]; rfl), _, rfl⟩
    · have hnx : ∀ ty, (Instr.next (.pointer (some ⟨w.heap.size, 0, none⟩)) true ty).run Tryd.prog (w.iter s pos) = _ := fun ty => run_next_end w s pos ty hp
      go_wp2
      go_ret
      rw [List.take_of_length_le (by omega)] at hall
      exact ⟨by first | rfl | (rw [hall]; rfl), _, rfl⟩
end Go.Proofs
namespace Go.Vd
open Go.Proofs
theorem good_isText (L : List UInt8) : GoodP Tryd.prog gl0 175 [.str L] (.bool (std.tb fun _ => L.all okB)) := by
  intro w ρ rw N vs hfr hrw hg hargs
  match vs, hargs with
  | [v1], ⟨r1, _⟩ =>
    generalize hs1 : SV.str L = s1 at r1
    cases r1 with
    | str s =>
      cases hs1
      refine (isText_walk s w).mono fun e w' hq => ?_
      obtain ⟨rfl, pos, rfl⟩ := hq
      refine ⟨_, rfl, Ext.alloc _ _, fun key _ => ?_⟩
      exact Rel.bool _
    | _ => cases hs1
end Go.Vd

