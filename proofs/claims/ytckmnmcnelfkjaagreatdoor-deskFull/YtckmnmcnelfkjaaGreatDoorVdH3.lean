/- The types of the seat, as the generator asks for them (printed by mktys.py). -/
import Derived.Test.YtckmnmcnelfkjaaGreatDoorVdEq
import Derived.Lib.ItoaNum
import Derived.Test.YtckmnmcnelfkjaaGreatDoorProg
import Derived.Test.YtckmnmcnelfkjaaGreatDoorVdSimp
import Derived.Test.YtckmnmcnelfkjaaGreatDoorVdLib
import Derived.RangeFuncNested
import Derived.RangeFuncBound
import Derived.RangeFuncCalls
import Derived.RangeFuncLeaves
import Derived.Shelf.Abstract
import Derived.Shelf.RegionOpen
import Derived.WalkKit
import Derived.OwnWalkIn
import Derived.TacticsInMore
import Derived.LoopNIn
import Derived.LoopIn
import Derived.Laws.RangeString
import Derived.Laws.RangeAny
import Derived.LoopTactic
set_option linter.unusedVariables false
set_option maxRecDepth 100000
namespace Go.Vd
open Go.Proofs
def ty2:Ty:=⟨false,1, [.int .i64 0], .int .i64⟩
theorem Pn:aB Tryz.prog 2 ty2:= .mk' (.int .i64) [.int .i64 0] (by kernel_rfl) Tryz.underlying2 (by decide) rfl (fun _=>rfl) rfl rfl rfl rfl
def ty3:Ty:=⟨false,1, [.int .i64 0], .int .i64⟩
theorem Po:aB Tryz.prog 3 ty3:= .mk' (.int .i64) [.int .i64 0] (by kernel_rfl) Tryz.underlying3 (by decide) rfl (fun _=>rfl) rfl rfl rfl rfl
def ty4:Ty:=⟨false,1, [.bool false], .bool⟩
theorem Pp:aB Tryz.prog 4 ty4:= .mk' .bool [.bool false] (by kernel_rfl) Tryz.underlying4 (by decide) rfl (fun _=>rfl) rfl rfl rfl rfl
def ty5:Ty:=⟨false,1, [.int .u8 0], .int .u8⟩
theorem Pq:aB Tryz.prog 5 ty5:= .mk' (.int .u8) [.int .u8 0] (by kernel_rfl) Tryz.underlying5 (by decide) rfl (fun _=>rfl) rfl rfl rfl rfl
def ty9:Ty:=⟨false,1, [.str []], .str⟩
theorem Pr:aB Tryz.prog 9 ty9:= .mk' .string [.string ⟨#[]⟩] (by kernel_rfl) Tryz.underlying9 (by decide) rfl (fun _=>rfl) rfl rfl rfl rfl
def Ps:Ty:=⟨false,1, [.int .i32 0], .int .i32⟩
theorem Ns:aB Tryz.prog 21 Ps:= .mk' (.int .i32) [.int .i32 0] (by kernel_rfl) Tryz.underlying21 (by decide) rfl (fun _=>rfl) rfl rfl rfl rfl
def Pt:Ty:=⟨false,1, [.int .u64 0], .int .u64⟩
theorem Nt:aB Tryz.prog 22 Pt:= .mk' (.int .u64) [.int .u64 0] (by kernel_rfl) Tryz.underlying22 (by decide) rfl (fun _=>rfl) rfl rfl rfl rfl
def Pv:Ty:=⟨true,5, [.int .u64 0, .int .i64 0, .int .i64 0, .int .i64 0, .int .i64 0], .struct [(0,1),(1,1),(2,1),(3,1),(4,1)] true⟩
theorem Nu:aB Tryz.prog 24 Pv:= .mk' _ [.int .u64 0, .int .i64 0, .int .i64 0, .int .i64 0, .int .i64 0] (by kernel_rfl) Tryz.underlying24 (by decide) rfl (fun h=>by cases h) rfl rfl rfl ⟨(fun _=>fx (by kernel_rfl) Tryz.underlying24 (by kernel_rfl) (.int (by decide) rfl Tryz.underlying22 (.int (by decide) rfl Tryz.underlying3 (.int (by decide) rfl Tryz.underlying3 (.int (by decide) rfl Tryz.underlying3 (.int (by decide) rfl Tryz.underlying3 .nil)))))),bN (by kernel_rfl)⟩
def Pw:Ty:=⟨false,1, [.nils], .slice 73 1 24 false⟩
theorem Nv:aB Tryz.prog 25 Pw:= .mk' (.slice 73) [.slice none 0 0] (by kernel_rfl) Tryz.underlying25 (by decide) rfl (fun _=>rfl) rfl rfl rfl ⟨rfl,by decide,(fun h=>by cases h),dB (by kernel_rfl)⟩
def Px:Ty:=⟨true,2, [.int .i64 0, .nils], .struct [(0,1),(1,1)] false⟩
theorem Nw:aB Tryz.prog 27 Px:= .mk' _ [.int .i64 0, .slice none 0 0] (by kernel_rfl) Tryz.underlying27 (by decide) rfl (fun h=>by cases h) rfl rfl rfl ⟨(fun h=>by cases h),bN (by kernel_rfl)⟩
def Py:Ty:=⟨false,1, [.nils], .slice 113 3 32 false⟩
theorem Nx:aB Tryz.prog 28 Py:= .mk' (.slice 113) [.slice none 0 0] (by kernel_rfl) Tryz.underlying28 (by decide) rfl (fun _=>rfl) rfl rfl rfl ⟨rfl,by decide,(fun h=>by cases h),dB (by kernel_rfl)⟩
def Pz:Ty:=⟨true,64, [.nrun 64], .array 64 28 1⟩
theorem Ny:aB Tryz.prog 29 Pz:= .mk' (.array 64 28) (List.replicate 64 (.slice none 0 0)) (by kernel_rfl) Tryz.underlying29 (by decide) rfl (fun h=>by cases h) rfl rfl rfl ⟨rfl,o9 (by kernel_rfl)⟩
def PA:Ty:=⟨true,130, [.int .u64 0, .int .i64 0, .nrun 64, .nrun 64], .struct [(0,1),(1,1),(2,64),(66,64)] false⟩
theorem Nz:aB Tryz.prog 31 PA:= .mk' _ (List.append [.int .u64 0, .int .i64 0] (List.replicate 128 (.slice none 0 0))) (by kernel_rfl) Tryz.underlying31 (by decide) rfl (fun h=>by cases h) rfl rfl rfl ⟨(fun h=>by cases h),bN (by kernel_rfl)⟩
def PB:Ty:=⟨false,1, [.nils], .slice 66 2 24 false⟩
theorem NA:aB Tryz.prog 32 PB:= .mk' (.slice 66) [.slice none 0 0] (by kernel_rfl) Tryz.underlying32 (by decide) rfl (fun _=>rfl) rfl rfl rfl ⟨rfl,by decide,(fun h=>by cases h),dB (by kernel_rfl)⟩
def PC:Ty:=⟨true,138, [.int .u64 0, .int .i64 0, .int .i64 0, .int .i64 0, .int .i64 0, .int .i64 0, .nils, .int .u64 0, .int .i64 0, .nrun 64, .nrun 64, .nils], .struct [(0,5),(5,2),(7,130),(137,1)] false⟩
theorem NB:aB Tryz.prog 34 PC:= .mk' _ (List.append [.int .u64 0, .int .i64 0, .int .i64 0, .int .i64 0, .int .i64 0, .int .i64 0, .slice none 0 0, .int .u64 0, .int .i64 0] (List.append (List.replicate 128 (.slice none 0 0)) ([.slice none 0 0]))) (by kernel_rfl) Tryz.underlying34 (by decide) rfl (fun h=>by cases h) rfl rfl rfl ⟨(fun h=>by cases h),bN (by kernel_rfl)⟩
def PD:Ty:=⟨false,1, [.int .u32 0], .int .u32⟩
theorem NC:aB Tryz.prog 35 PD:= .mk' (.int .u32) [.int .u32 0] (by kernel_rfl) Tryz.underlying35 (by decide) rfl (fun _=>rfl) rfl rfl rfl rfl
def PE:Ty:=⟨true,6, [.int .i64 0, .str [], .int .u64 0, .int .u32 0, .str [], .str []], .struct [(0,1),(1,1),(2,1),(3,1),(4,1),(5,1)] true⟩
theorem ND:aB Tryz.prog 37 PE:= .mk' _ [.int .i64 0, .string ⟨#[]⟩, .int .u64 0, .int .u32 0, .string ⟨#[]⟩, .string ⟨#[]⟩] (by kernel_rfl) Tryz.underlying37 (by decide) rfl (fun h=>by cases h) rfl rfl rfl ⟨(fun _=>fx (by kernel_rfl) Tryz.underlying37 (by kernel_rfl) (.int (by decide) rfl Tryz.underlying3 (.str (by decide) rfl Tryz.underlying9 (.int (by decide) rfl Tryz.underlying22 (.int (by decide) rfl Tryz.underlying35 (.str (by decide) rfl Tryz.underlying9 (.str (by decide) rfl Tryz.underlying9 .nil))))))),bN (by kernel_rfl)⟩
def PF:Ty:=⟨true,7, [.int .i64 0, .int .i64 0, .str [], .int .u64 0, .int .u32 0, .str [], .str []], .struct [(0,1),(1,6)] true⟩
theorem NF:aB Tryz.prog 39 PF:= .mk' _ [.int .i64 0, .int .i64 0, .string ⟨#[]⟩, .int .u64 0, .int .u32 0, .string ⟨#[]⟩, .string ⟨#[]⟩] (by kernel_rfl) Tryz.underlying39 (by decide) rfl (fun h=>by cases h) rfl rfl rfl ⟨(fun _=>l5 (by kernel_rfl) Tryz.underlying39 (by kernel_rfl) (.int (by decide) rfl Tryz.underlying3 (Plain2.sub (z:= [.int .i64 0, .str [], .int .u64 0, .int .u32 0, .str [], .str []]) (z':= []) (by decide) rfl Tryz.underlying37 (by kernel_rfl) (by kernel_rfl) (.int (by decide) rfl Tryz.underlying3 (.str (by decide) rfl Tryz.underlying9 (.int (by decide) rfl Tryz.underlying22 (.int (by decide) rfl Tryz.underlying35 (.str (by decide) rfl Tryz.underlying9 (.str (by decide) rfl Tryz.underlying9 .nil)))))) .nil))),bN (by kernel_rfl)⟩
def PG:Ty:=⟨false,1, [.int .i64 0], .int .i64⟩
theorem NG:aB Tryz.prog 43 PG:= .mk' (.int .i64) [.int .i64 0] (by kernel_rfl) Tryz.underlying43 (by decide) rfl (fun _=>rfl) rfl rfl rfl rfl
def PH:Ty:=⟨false,1, [.nils], .slice 37 6 72 false⟩
theorem NH:aB Tryz.prog 49 PH:= .mk' (.slice 37) [.slice none 0 0] (by kernel_rfl) Tryz.underlying49 (by decide) rfl (fun _=>rfl) rfl rfl rfl ⟨rfl,by decide,(fun h=>by cases h),dB (by kernel_rfl)⟩
def PI:Ty:=⟨false,1, [.nils], .slice 39 7 80 false⟩
theorem NI:aB Tryz.prog 62 PI:= .mk' (.slice 39) [.slice none 0 0] (by kernel_rfl) Tryz.underlying62 (by decide) rfl (fun _=>rfl) rfl rfl rfl ⟨rfl,by decide,(fun h=>by cases h),dB (by kernel_rfl)⟩
def PJ:Ty:=⟨false,1, [.nils], .slice 75 1 2 false⟩
theorem NJ:aB Tryz.prog 63 PJ:= .mk' (.slice 75) [.slice none 0 0] (by kernel_rfl) Tryz.underlying63 (by decide) rfl (fun _=>rfl) rfl rfl rfl ⟨rfl,by decide,(fun h=>by cases h),dB (by kernel_rfl)⟩
def PK:Ty:=⟨false,1, [.nils], .slice 4 1 1 false⟩
theorem NK:aB Tryz.prog 64 PK:= .mk' (.slice 4) [.slice none 0 0] (by kernel_rfl) Tryz.underlying64 (by decide) rfl (fun _=>rfl) rfl rfl rfl ⟨rfl,by decide,(fun h=>by cases h),dB (by kernel_rfl)⟩
def PL:Ty:=⟨true,2, [.int .u32 0, .str []], .struct [(0,1),(1,1)] true⟩
theorem NL:aB Tryz.prog 66 PL:= .mk' _ [.int .u32 0, .string ⟨#[]⟩] (by kernel_rfl) Tryz.underlying66 (by decide) rfl (fun h=>by cases h) rfl rfl rfl ⟨(fun _=>fx (by kernel_rfl) Tryz.underlying66 (by kernel_rfl) (.int (by decide) rfl Tryz.underlying35 (.str (by decide) rfl Tryz.underlying9 .nil))),bN (by kernel_rfl)⟩
def PM:Ty:=⟨true,8, [.int .u32 0, .str [], .int .i64 0, .str [], .int .u64 0, .str [], .int .i64 0, .int .i64 0], .struct [(0,2),(2,1),(3,1),(4,1),(5,1),(6,1),(7,1)] true⟩
theorem pW:aB Tryz.prog 69 PM:= .mk' _ [.int .u32 0, .string ⟨#[]⟩, .int .i64 0, .string ⟨#[]⟩, .int .u64 0, .string ⟨#[]⟩, .int .i64 0, .int .i64 0] (by kernel_rfl) Tryz.underlying69 (by decide) rfl (fun h=>by cases h) rfl rfl rfl ⟨(fun _=>l5 (by kernel_rfl) Tryz.underlying69 (by kernel_rfl) (Plain2.sub (z:= [.int .u32 0, .str []]) (z':= [.int .i64 0, .str [], .int .u64 0, .str [], .int .i64 0, .int .i64 0]) (by decide) rfl Tryz.underlying66 (by kernel_rfl) (by kernel_rfl) (.int (by decide) rfl Tryz.underlying35 (.str (by decide) rfl Tryz.underlying9 .nil)) (.int (by decide) rfl Tryz.underlying3 (.str (by decide) rfl Tryz.underlying9 (.int (by decide) rfl Tryz.underlying22 (.str (by decide) rfl Tryz.underlying9 (.int (by decide) rfl Tryz.underlying3 (.int (by decide) rfl Tryz.underlying3 .nil)))))))),bN (by kernel_rfl)⟩
def PN:Ty:=⟨false,1, [.nils], .slice 69 8 88 false⟩
theorem NM:aB Tryz.prog 73 PN:= .mk' (.slice 69) [.slice none 0 0] (by kernel_rfl) Tryz.underlying73 (by decide) rfl (fun _=>rfl) rfl rfl rfl ⟨rfl,by decide,(fun h=>by cases h),dB (by kernel_rfl)⟩
def PO:Ty:=⟨false,1, [.int .u16 0], .int .u16⟩
theorem NN:aB Tryz.prog 75 PO:= .mk' (.int .u16) [.int .u16 0] (by kernel_rfl) Tryz.underlying75 (by decide) rfl (fun _=>rfl) rfl rfl rfl rfl
def PP:Ty:=⟨true,12, [.int .u32 0, .str [], .int .i64 0, .str [], .int .u64 0, .str [], .int .i64 0, .int .i64 0, .nils, .nils, .int .i64 0, .bool false], .struct [(0,8),(8,1),(9,1),(10,1),(11,1)] false⟩
theorem NO:aB Tryz.prog 93 PP:= .mk' _ [.int .u32 0, .string ⟨#[]⟩, .int .i64 0, .string ⟨#[]⟩, .int .u64 0, .string ⟨#[]⟩, .int .i64 0, .int .i64 0, .slice none 0 0, .slice none 0 0, .int .i64 0, .bool false] (by kernel_rfl) Tryz.underlying93 (by decide) rfl (fun h=>by cases h) rfl rfl rfl ⟨(fun h=>by cases h),bN (by kernel_rfl)⟩
def Lf:Ty:=⟨true,3, [.int .u32 0, .str [], .int .u64 0], .struct [(0,2),(2,1)] true⟩
theorem nt:aB Tryz.prog 113 Lf:= .mk' _ [.int .u32 0, .string ⟨#[]⟩, .int .u64 0] (by kernel_rfl) Tryz.underlying113 (by decide) rfl (fun h=>by cases h) rfl rfl rfl ⟨(fun _=>l5 (by kernel_rfl) Tryz.underlying113 (by kernel_rfl) (Plain2.sub (z:= [.int .u32 0, .str []]) (z':= [.int .u64 0]) (by decide) rfl Tryz.underlying66 (by kernel_rfl) (by kernel_rfl) (.int (by decide) rfl Tryz.underlying35 (.str (by decide) rfl Tryz.underlying9 .nil)) (.int (by decide) rfl Tryz.underlying22 .nil))),bN (by kernel_rfl)⟩
def Lg:Ty:=⟨false,1, [.val (.map none)], .map 66 3 false⟩
theorem Jr:aB Tryz.prog 116 Lg:= .mk' (.map 66 3) [.map none] (by kernel_rfl) Tryz.underlying116 (by decide) rfl (fun _=>rfl) rfl rfl rfl ⟨rfl,yo Tryz.underlying66 (f1:=_) (f2:=_) rfl (by decide) (by decide) rfl rfl Tryz.underlying35 Tryz.underlying9 (fx (by kernel_rfl) Tryz.underlying66 (by kernel_rfl) (.int (by decide) rfl Tryz.underlying35 (.str (by decide) rfl Tryz.underlying9 .nil))),by kernel_rfl⟩
def Lh:Ty:=⟨false,1, [.val .nilFunc], .other⟩
theorem Js:aB Tryz.prog 129 Lh:= .mk' _ [.nilFunc] (by kernel_rfl) Tryz.underlying129 (by decide) rfl (fun _=>rfl) rfl rfl rfl trivial
def Li:Ty:=⟨true,19, [.int .u32 0, .str [], .int .i64 0, .str [], .int .u64 0, .str [], .int .i64 0, .int .i64 0, .nils, .nils, .int .i64 0, .bool false, .int .i64 0, .str [], .int .u64 0, .int .u32 0, .str [], .str [], .int .i64 0], .struct [(0,12),(12,6),(18,1)] false⟩
theorem Jt:aB Tryz.prog 141 Li:= .mk' _ [.int .u32 0, .string ⟨#[]⟩, .int .i64 0, .string ⟨#[]⟩, .int .u64 0, .string ⟨#[]⟩, .int .i64 0, .int .i64 0, .slice none 0 0, .slice none 0 0, .int .i64 0, .bool false, .int .i64 0, .string ⟨#[]⟩, .int .u64 0, .int .u32 0, .string ⟨#[]⟩, .string ⟨#[]⟩, .int .i64 0] (by kernel_rfl) Tryz.underlying141 (by decide) rfl (fun h=>by cases h) rfl rfl rfl ⟨(fun h=>by cases h),bN (by kernel_rfl)⟩
def Lj:Ty:=⟨false,1, [.val .nilFunc], .other⟩
theorem Ju:aB Tryz.prog 142 Lj:= .mk' _ [.nilFunc] (by kernel_rfl) Tryz.underlying142 (by decide) rfl (fun _=>rfl) rfl rfl rfl trivial
def Lk:Ty:=⟨false,1, [.nilp], .other⟩
theorem Jv:aB Tryz.prog 162 Lk:= .mk' _ [.pointer none] (by kernel_rfl) Tryz.underlying162 (by decide) rfl (fun _=>rfl) rfl rfl rfl trivial
def Ll:Ty:=⟨false,1, [.val (.map none)], .map 66 4 true⟩
theorem Jw:aB Tryz.prog 163 Ll:= .mk' (.map 66 4) [.map none] (by kernel_rfl) Tryz.underlying163 (by decide) rfl (fun _=>rfl) rfl rfl rfl ⟨rfl,yo Tryz.underlying66 (f1:=_) (f2:=_) rfl (by decide) (by decide) rfl rfl Tryz.underlying35 Tryz.underlying9 (fx (by kernel_rfl) Tryz.underlying66 (by kernel_rfl) (.int (by decide) rfl Tryz.underlying35 (.str (by decide) rfl Tryz.underlying9 .nil))),by kernel_rfl⟩
def Lm:Ty:=⟨false,1, [.int .u64 0], .int .u64⟩
theorem Jy:aB Tryz.prog 168 Lm:= .mk' (.int .u64) [.int .u64 0] (by kernel_rfl) Tryz.underlying168 (by decide) rfl (fun _=>rfl) rfl rfl rfl rfl
def Ln:Ty:=⟨true,7, [.str [], .str [], .str [], .str [], .str [], .str [], .str []], .array 7 9 1⟩
theorem Jz:aB Tryz.prog 173 Ln:= .mk' (.array 7 9) [.string ⟨#[]⟩, .string ⟨#[]⟩, .string ⟨#[]⟩, .string ⟨#[]⟩, .string ⟨#[]⟩, .string ⟨#[]⟩, .string ⟨#[]⟩] (by kernel_rfl) Tryz.underlying173 (by decide) rfl (fun h=>by cases h) rfl rfl rfl ⟨rfl,o9 (by kernel_rfl)⟩
def Lo:Ty:=⟨true,2, [.int .i64 0, .str []], .struct [(0,1),(1,1)] true⟩
theorem JA:aB Tryz.prog 175 Lo:= .mk' _ [.int .i64 0, .string ⟨#[]⟩] (by kernel_rfl) Tryz.underlying175 (by decide) rfl (fun h=>by cases h) rfl rfl rfl ⟨(fun _=>fx (by kernel_rfl) Tryz.underlying175 (by kernel_rfl) (.int (by decide) rfl Tryz.underlying3 (.str (by decide) rfl Tryz.underlying9 .nil))),bN (by kernel_rfl)⟩
def Lq:Ty:=⟨false,1, [.nils], .slice 175 2 24 false⟩
theorem JB:aB Tryz.prog 176 Lq:= .mk' (.slice 175) [.slice none 0 0] (by kernel_rfl) Tryz.underlying176 (by decide) rfl (fun _=>rfl) rfl rfl rfl ⟨rfl,by decide,(fun h=>by cases h),dB (by kernel_rfl)⟩
def Lr:Ty:=⟨true,2, [.str [], .nils], .struct [(0,1),(1,1)] false⟩
theorem JC:aB Tryz.prog 178 Lr:= .mk' _ [.string ⟨#[]⟩, .slice none 0 0] (by kernel_rfl) Tryz.underlying178 (by decide) rfl (fun h=>by cases h) rfl rfl rfl ⟨(fun h=>by cases h),bN (by kernel_rfl)⟩
def Ls:Ty:=⟨false,1, [.nilp], .other⟩
theorem JD:aB Tryz.prog 180 Ls:= .mk' _ [.pointer none] (by kernel_rfl) Tryz.underlying180 (by decide) rfl (fun _=>rfl) rfl rfl rfl trivial
def Lt:Ty:=⟨false,1, [.val .nilFunc], .other⟩
theorem JE:aB Tryz.prog 181 Lt:= .mk' _ [.nilFunc] (by kernel_rfl) Tryz.underlying181 (by decide) rfl (fun _=>rfl) rfl rfl rfl trivial
def Lu:Ty:=⟨true,4, [.nilp, .val .nilFunc, .int .u64 0, .int .u64 0], .struct [(0,1),(1,1),(2,1),(3,1)] false⟩
theorem JF:aB Tryz.prog 183 Lu:= .mk' _ [.pointer none, .nilFunc, .int .u64 0, .int .u64 0] (by kernel_rfl) Tryz.underlying183 (by decide) rfl (fun h=>by cases h) rfl rfl rfl ⟨(fun h=>by cases h),bN (by kernel_rfl)⟩
def Lv:Ty:=⟨false,1, [.nils], .slice 3 1 8 false⟩
theorem JG:aB Tryz.prog 211 Lv:= .mk' (.slice 3) [.slice none 0 0] (by kernel_rfl) Tryz.underlying211 (by decide) rfl (fun _=>rfl) rfl rfl rfl ⟨rfl,by decide,(fun h=>by cases h),dB (by kernel_rfl)⟩
def Lw:Ty:=⟨true,3, [.int .i64 0, .int .i64 0, .int .i64 0], .struct [(0,1),(1,1),(2,1)] true⟩
theorem JH:aB Tryz.prog 234 Lw:= .mk' _ [.int .i64 0, .int .i64 0, .int .i64 0] (by kernel_rfl) Tryz.underlying234 (by decide) rfl (fun h=>by cases h) rfl rfl rfl ⟨(fun _=>fx (by kernel_rfl) Tryz.underlying234 (by kernel_rfl) (.int (by decide) rfl Tryz.underlying3 (.int (by decide) rfl Tryz.underlying3 (.int (by decide) rfl Tryz.underlying3 .nil)))),bN (by kernel_rfl)⟩
def Lx:Ty:=⟨false,1, [.val .nilIface], .other⟩
theorem JI:aB Tryz.prog 244 Lx:= .mk' _ [.nilIface] (by kernel_rfl) Tryz.underlying244 (by decide) rfl (fun _=>rfl) rfl rfl rfl trivial
def Ly:Ty:=⟨false,1, [.cpx 0 0], .other⟩
theorem JJ:aB Tryz.prog 247 Ly:= .mk' _ [.complex .f64 0 0] (by kernel_rfl) Tryz.underlying247 (by decide) rfl (fun _=>rfl) rfl rfl rfl trivial
def Lz:Ty:=⟨false,1, [.flt 0], .flt⟩
theorem JK:aB Tryz.prog 248 Lz:= .mk' (.float .f64) [.float .f64 0] (by kernel_rfl) Tryz.underlying248 (by decide) rfl (fun _=>rfl) rfl rfl rfl rfl
def LB:Ty:=⟨false,1, [.nils], .slice 5 1 1 true⟩
theorem JL:aB Tryz.prog 251 LB:= .mk' (.slice 5) [.slice none 0 0] (by kernel_rfl) Tryz.underlying251 (by decide) rfl (fun _=>rfl) rfl rfl rfl ⟨rfl,by decide,(fun _=>Tryz.underlying5),dB (by kernel_rfl)⟩
def LC:Ty:=⟨true,45, [.int .i64 0, .int .i64 0, .int .i64 0, .int .i64 0, .int .i64 0, .int .i64 0, .int .i64 0, .int .i64 0, .int .i64 0, .int .i64 0, .int .i64 0, .int .i64 0, .int .i64 0, .int .i64 0, .int .i64 0, .int .i64 0, .int .i64 0, .int .i64 0, .int .i64 0, .int .i64 0, .int .i64 0, .int .i64 0, .int .i64 0, .int .i64 0, .int .i64 0, .int .i64 0, .int .i64 0, .int .i64 0, .int .i64 0, .int .i64 0, .int .i64 0, .int .i64 0, .int .i64 0, .int .i64 0, .int .i64 0, .int .i64 0, .int .i64 0, .int .i64 0, .int .i64 0, .int .i64 0, .int .i64 0, .int .i64 0, .int .i64 0, .int .i64 0, .int .i64 0], .array 15 234 3⟩
theorem JM:aB Tryz.prog 258 LC:= .mk' (.array 15 234) [.int .i64 0, .int .i64 0, .int .i64 0, .int .i64 0, .int .i64 0, .int .i64 0, .int .i64 0, .int .i64 0, .int .i64 0, .int .i64 0, .int .i64 0, .int .i64 0, .int .i64 0, .int .i64 0, .int .i64 0, .int .i64 0, .int .i64 0, .int .i64 0, .int .i64 0, .int .i64 0, .int .i64 0, .int .i64 0, .int .i64 0, .int .i64 0, .int .i64 0, .int .i64 0, .int .i64 0, .int .i64 0, .int .i64 0, .int .i64 0, .int .i64 0, .int .i64 0, .int .i64 0, .int .i64 0, .int .i64 0, .int .i64 0, .int .i64 0, .int .i64 0, .int .i64 0, .int .i64 0, .int .i64 0, .int .i64 0, .int .i64 0, .int .i64 0, .int .i64 0] (by kernel_rfl) Tryz.underlying258 (by decide) rfl (fun h=>by cases h) rfl rfl rfl ⟨rfl,o9 (by kernel_rfl)⟩
def LD:Ty:=⟨true,2, [.int .i64 0, .val .nilFunc], .struct [(0,1),(1,1)] false⟩
theorem JN:aB Tryz.prog 260 LD:= .mk' _ [.int .i64 0, .nilFunc] (by kernel_rfl) Tryz.underlying260 (by decide) rfl (fun h=>by cases h) rfl rfl rfl ⟨(fun h=>by cases h),bN (by kernel_rfl)⟩
def LF:Ty:=⟨true,3, [.int .i64 0, .int .i64 0, .val .nilFunc], .struct [(0,1),(1,1),(2,1)] false⟩
theorem JO:aB Tryz.prog 262 LF:= .mk' _ [.int .i64 0, .int .i64 0, .nilFunc] (by kernel_rfl) Tryz.underlying262 (by decide) rfl (fun h=>by cases h) rfl rfl rfl ⟨(fun h=>by cases h),bN (by kernel_rfl)⟩
def yp:Nat->Option Ty:=fun n=>match n with
 |2=>some ty2
 |3=>some ty3
 |4=>some ty4
 |5=>some ty5
 |9=>some ty9
 |21=>some Ps
 |22=>some Pt
 |24=>some Pv
 |25=>some Pw
 |27=>some Px
 |28=>some Py
 |29=>some Pz
 |31=>some PA
 |32=>some PB
 |34=>some PC
 |35=>some PD
 |37=>some PE
 |39=>some PF
 |43=>some PG
 |49=>some PH
 |62=>some PI
 |63=>some PJ
 |64=>some PK
 |66=>some PL
 |69=>some PM
 |73=>some PN
 |75=>some PO
 |93=>some PP
 |113=>some Lf
 |116=>some Lg
 |129=>some Lh
 |141=>some Li
 |142=>some Lj
 |162=>some Lk
 |163=>some Ll
 |168=>some Lm
 |173=>some Ln
 |175=>some Lo
 |176=>some Lq
 |178=>some Lr
 |180=>some Ls
 |181=>some Lt
 |183=>some Lu
 |211=>some Lv
 |234=>some Lw
 |244=>some Lx
 |247=>some Ly
 |248=>some Lz
 |251=>some LB
 |258=>some LC
 |260=>some LD
 |262=>some LF
 |_=>none
def kY:List Int:= [2,3,19,3,1,6,4,1,12,7,1,10,11,1,6,12,1,6,37,2,12,38,2,6,39,2,2,41,2,8,44,4,25,48,5,999,49,1,3,90,1,42,120,5,999]
def kZ:List (List UInt8):= [[48,49,48,48], [48,49,49,48], [48,52,48,48], [48,52,49,48], [48,52,50,48], [48,52,50,49], [48,52,51,48]]
def gl0:Nat->SV:=fun g=>match g with
 |0=> .rop 7 fun j=> .str (kZ.getD j [])
 |1=> .rop 45 fun j=> .int .i64 (kY.getD j 0)
 |g=> .val (.pointer (some ⟨g,0,none⟩))
def yq:Nat->Nat->Option Nat:=fun t i=>match t,i with
 |24,0=>some 22
 |24,1=>some 3
 |24,2=>some 3
 |24,3=>some 3
 |24,4=>some 3
 |27,0=>some 3
 |27,1=>some 25
 |31,0=>some 22
 |31,1=>some 3
 |31,2=>some 29
 |31,3=>some 29
 |34,0=>some 24
 |34,1=>some 27
 |34,2=>some 31
 |34,3=>some 32
 |37,0=>some 3
 |37,1=>some 9
 |37,2=>some 22
 |37,3=>some 35
 |37,4=>some 9
 |37,5=>some 9
 |39,0=>some 3
 |39,1=>some 37
 |66,0=>some 35
 |66,1=>some 9
 |69,0=>some 66
 |69,1=>some 3
 |69,2=>some 9
 |69,3=>some 22
 |69,4=>some 9
 |69,5=>some 3
 |69,6=>some 3
 |93,0=>some 69
 |93,1=>some 49
 |93,2=>some 49
 |93,3=>some 3
 |93,4=>some 4
 |113,0=>some 66
 |113,1=>some 22
 |141,0=>some 93
 |141,1=>some 37
 |141,2=>some 3
 |175,0=>some 3
 |175,1=>some 9
 |178,0=>some 9
 |178,1=>some 176
 |183,0=>some 180
 |183,1=>some 181
 |183,2=>some 22
 |183,3=>some 22
 |234,0=>some 3
 |234,1=>some 3
 |234,2=>some 3
 |260,0=>some 3
 |260,1=>some 129
 |262,0=>some 3
 |262,1=>some 3
 |262,2=>some 129
 |_,_=>none
def D6:Tys:= { ty:=yp,gl:=gl0,fl:=yq }
theorem Gl: ∀ t ty,yp t=some ty->aB Tryz.prog t ty:=by
 intro t ty h
 unfold yp at h
 split at h<;>cases h
 · exact Pn
 · exact Po
 · exact Pp
 · exact Pq
 · exact Pr
 · exact Ns
 · exact Nt
 · exact Nu
 · exact Nv
 · exact Nw
 · exact Nx
 · exact Ny
 · exact Nz
 · exact NA
 · exact NB
 · exact NC
 · exact ND
 · exact NF
 · exact NG
 · exact NH
 · exact NI
 · exact NJ
 · exact NK
 · exact NL
 · exact pW
 · exact NM
 · exact NN
 · exact NO
 · exact nt
 · exact Jr
 · exact Js
 · exact Jt
 · exact Ju
 · exact Jv
 · exact Jw
 · exact Jy
 · exact Jz
 · exact JA
 · exact JB
 · exact JC
 · exact JD
 · exact JE
 · exact JF
 · exact JG
 · exact JH
 · exact JI
 · exact JJ
 · exact JK
 · exact JL
 · exact JM
 · exact JN
 · exact JO
theorem flx{P:Program}{t i u:Nat}{fs:Array Field}{f:Field}(h:P.underlying t=some (.struct fs))(h1:fs[i]? =some f)(h2:f.type=u): ∃(fs:Array Field) (f:Field),P.underlying t=some (.struct fs)∧fs[i]? =some f∧f.type=u:=⟨_,_,h,h1,h2⟩
theorem Gm: ∀ t i u,yq t i=some u-> ∃(fs:Array Field) (f:Field),Tryz.prog.underlying t=some (.struct fs)∧fs[i]? =some f∧f.type=u:=by
 intro t i u h
 unfold yq at h
 split at h<;>cases h
 all_goals ((with_reducible first|apply flx Tryz.underlying24|apply flx Tryz.underlying27|apply flx Tryz.underlying31|apply flx Tryz.underlying34|apply flx Tryz.underlying37|apply flx Tryz.underlying39|apply flx Tryz.underlying66|apply flx Tryz.underlying69|apply flx Tryz.underlying93|apply flx Tryz.underlying113|apply flx Tryz.underlying141|apply flx Tryz.underlying175|apply flx Tryz.underlying178|apply flx Tryz.underlying183|apply flx Tryz.underlying234|apply flx Tryz.underlying260|apply flx Tryz.underlying262)<;>rfl)
theorem JP:TysOk Tryz.prog D6:=⟨Gl,Gm⟩
theorem mixed:Tryz.prog.follows .mixedOrders=true:=by kernel_rfl
abbrev GFn(f:FuncId)(a:Ar->List SV)(r:Ar->SV):Prop:=cS Tryz.prog gl0 f (a std) (r std)
theorem aC{G:Ar->Pu}{X:Ar->Xt}{I:Nat->Option Func}(hG:az Tryz.prog gl0 (G std))(hX:XtOk Tryz.prog gl0 (X std))(hI:gF Tryz.prog I){f:FuncId}{fn:Func}(hf:Tryz.prog.funcs[f]? =some fn)(how:How){a:Ar->List SV}{r:Ar->SV}(h: ∀ A:Ar,A=std->uC A D6 (G A) (X A) I how fn (a A) (r A)):GFn f a r:=F7 (T:=D6) JP hG hX hI mixed hf how a r h
end Go.Vd
set_option linter.unusedSimpArgs false
namespace Go.Vd
def fL (b:UInt8):Bool:=decide (48<=b.toNat)&& decide (b.toNat<=57)
def isD (L:List UInt8):Bool:= !L.isEmpty && L.all fL
theorem nu{b:UInt8} :fL b=true↔48<=b.toNat∧b.toNat<=57:=by simp [fL]
theorem pX{L:List UInt8} :isD L=true↔L≠ [] ∧ ∀ b∈L,fL b=true:=by
 simp [isD,List.all_eq_true]
def dig (b:UInt8):Nat:=b.toNat - 48
def iO:Nat->Nat->List UInt8
 |0,_=> []
 |n+1,v=>iO n (v / 10)++ [UInt8.ofNat (48+v % 10)]
theorem yr: ∀ n v,(iO n v).length=n
 |0,_=>rfl
 |n+1,v=>by simp [iO,yr n]
theorem JQ{P:List UInt8->Prop}(h0:P [])(h1: ∀ L b,P L->P (L++ [b]))(L:List UInt8):P L:=by
 have: ∀ n,∀ L:List UInt8,L.length=n->P L:=by
  intro n
  induction n with
  |zero=>intro L h;rw [List.length_eq_zero_iff.1 h];exact h0
  |succ n ih=>
   intro L h
   have hne:L≠ [] :=by intro e;rw [e] at h;simp at h
   rw [<-List.dropLast_concat_getLast hne]
   exact h1 _ _ (ih _ (by rw [List.length_dropLast];omega))
 exact this _ L rfl
def lW (d:Nat)(t:Bool):Nat:=if t then (if 4<d then 2*d - 9 else 2*d) else d
def fy:List UInt8->Bool->Nat
 | [],_=>0
 |b::R,t=>lW (dig b) t+fy R (!t)
def odd:Nat->Bool
 |0=>false
 |n+1=> !odd n
theorem wg: ∀(R:List UInt8) (b:UInt8) (t:Bool),fy (R++ [b]) t=fy R t+lW (dig b) (t ^^ odd R.length)
 | [],b,t=>by simp [fy,odd]
 |c::R,b,t=>by
  simp only [List.cons_append,fy,wg R b,List.length_cons,odd]
  cases t<;>simp<;>omega
theorem uV: ∀ n,odd n=decide (n % 2=1)
 |0=>rfl
 |n+1=>by
  rw [odd,uV n]
  rcases Nat.mod_two_eq_zero_or_one n with h|h
  · rw [h];simp;omega
  · rw [h];simp;omega
def fS (L:List UInt8):Bool:=isD L && decide (fy L.reverse false % 10=0)
theorem JR{L:List UInt8}{k:Nat}(hk:k<L.length):L.reverse.getD (L.length - 1 - k) 0=L.getD k 0:=by
 rw [List.getD_eq_getElem?_getD,List.getD_eq_getElem?_getD,List.getElem?_reverse (by omega)]
 congr 2
 omega
end Go.Vd
namespace Go.Vd
def cr (a b:Int):Int:=if a<b then -1 else if b<a then 1 else 0
def l6 (a b:List UInt8):Int:=if a<b then -1 else if b<a then 1 else 0
theorem ga: ∀(x y:List UInt8),Op.bytesLess x y=decide (x<y)
 |_, [] =>by simp [Op.bytesLess]
 | [],_::_=>by simp [Op.bytesLess]
 |a::x,b::y=>by simp only [Op.bytesLess,ga x y,List.cons_lt_cons_iff];rw [Bool.eq_iff_iff];simp
theorem uW(a b:List UInt8):(a<b∧a≠b∧l6 a b= -1)∨(a=b∧l6 a b=0)∨(b<a∧a≠b∧l6 a b=1):=by
 unfold l6
 by_cases h:a<b
 · exact .inl ⟨h,fun e=>List.lt_irrefl _ (e▸h),if_pos h⟩
 · rw [if_neg h]
   rcases List.le_iff_lt_or_eq.1 (List.not_lt.1 h) with h1|h1
   · exact .inr (.inr ⟨h1,fun e=>List.lt_irrefl _ (e▸h1),if_pos h1⟩)
   · subst h1;exact .inr (.inl ⟨rfl,if_neg h⟩)
def orL:List Int->Int
 | [] =>0
 |x::l=>if x=0 then orL l else x
theorem yt: ∀ {L:List Int} {i:Nat},(∀ x∈L.take i,x=0)->i<L.length->orL L=if L.getD i 0=0 then orL (L.drop (i+1)) else L.getD i 0
 | [],i,_,h=>by simp at h
 |x::l,0,_,_=>by simp [orL]
 |x::l,i+1,h,hi=>by
  have hx:x=0:=h x (by simp)
  have:=yt (L:=l) (i:=i) (fun y hy=>h y (by simp [hy])) (by simpa using hi)
  simpa [orL,hx] using this
theorem Cp: ∀ {L:List Int},(∀ x∈L,x=0)->orL L=0
 | [],_=>rfl
 |x::l,h=>by simp [orL,h x (by simp),Cp (L:=l) fun y hy=>h y (by simp [hy])]
def c8 (s:Int)(r:List UInt8)(s':Int)(r':List UInt8):Int:=if cr s s'=0 then l6 r r' else cr s s'
theorem Cq(s:Int)(r:List UInt8)(s':Int)(r':List UInt8):orL [cr s s',l6 r r'] =c8 s r s' r':=by
 simp only [orL,c8]
 split
 · split
   · rename_i h;exact h.symm
   · rfl
 · rfl
theorem gA(s:Int)(r:List UInt8)(s':Int)(r':List UInt8):c8 s r s' r'=if s=s'∧r=r' then 0 else if s<s'∨(s=s'∧r<r') then -1 else 1:=by
 unfold c8
 rcases Int.lt_trichotomy s s' with h|h|h
 · have e:cr s s'= -1:=if_pos h
   rw [e,if_neg (by omega),if_neg (fun h'=>by omega),if_pos (.inl h)]
 · have e:cr s s'=0:=by rw [h];simp [cr]
   rw [e,if_pos rfl]
   rcases uW r r' with ⟨h1,n,e1⟩ | ⟨n,e1⟩ | ⟨h1,n,e1⟩<;>rw [e1]
   · rw [if_neg (fun h'=>n h'.2),if_pos (.inr ⟨h,h1⟩)]
   · rw [if_pos ⟨h,n⟩]
   · rw [if_neg (fun h'=>n h'.2),if_neg]
     rintro (h'|h')
     · omega
     · exact List.lt_irrefl _ (List.lt_trans h1 h'.2)
 · have e:cr s s'=1:=by unfold cr;rw [if_neg (by omega),if_pos h]
   rw [e,if_neg (by omega),if_neg (fun h'=>by omega),if_neg (fun h'=>by omega)]
def okB (b:UInt8):Bool:=decide (32<=b.toNat)&& decide (b.toNat<=126)
def inS (k:Int)(b:UInt8):Bool:=if k=1∨k=3 then fL b else okB b
def gS (k:Int)(r:List UInt8):Bool:=r.all (inS k)
def dF (s:Int)(r:List UInt8):Bool:=decide (s<=999999)&&(decide (r.length=12)&& r.all okB)
theorem k6{p:UInt8->Bool}{r:List UInt8}{i:Nat}(h:i<r.length):(r.take (i+1)).all p=((r.take i).all p && p (r.getD i 0)):=by
 rw [<-bk (d:=0) h];simp
theorem ij{p:UInt8->Bool}{r:List UInt8}{i:Nat}(h:i<r.length)(hp:p (r.getD i 0)=false):r.all p=false:=by
 rw [List.all_eq_false]
 refine ⟨r.getD i 0, ?_,by rw [hp];simp⟩
 rw [List.getD_eq_getElem?_getD,gEE h]
 exact List.getElem_mem h
def D7 (h:Nat)(b:UInt8):Nat:=(h ^^^ b.toNat)*16777619 % 4294967296
def fnv (L:List UInt8):Nat:=L.foldl D7 2166136261
theorem D8{α β:Type}(f:α->β->α)(a:α)(L:List β)(b:β):(L++ [b]).foldl f a=f (L.foldl f a) b:=by simp
theorem yu(L:List UInt8)(b:UInt8):fnv (L++ [b])=D7 (fnv L) b:=D8 D7 _ L b
theorem Gn(L:List UInt8):fnv L<4294967296:=by
 induction L using JQ with
 |h0=>show 2166136261<4294967296;omega
 |h1 L b ih=>rw [yu];exact Nat.mod_lt _ (by omega)
theorem PQ{h:Nat}(b:UInt8)(hh:h<4294967296):h ^^^ b.toNat<4294967296:=Nat.xor_lt_two_pow (n:=32) hh (by have:=b.toNat_lt;omega)
theorem RL{h:Nat}(b:UInt8)(hh:h<4294967296):bits .xor .u32 (h:Int) (b.toNat:Int)=((h ^^^ b.toNat:Nat):Int):=by
 show IntKind.u32.wrap ((BitVec.ofInt 32 (h:Int)^^^ BitVec.ofInt 32 (b.toNat:Int)).toNat:Int)=_
 have hb:=b.toNat_lt
 have h1:(BitVec.ofInt 32 (h:Int)).toNat=h:=by rw [BitVec.toNat_ofInt];omega
 have h2:(BitVec.ofInt 32 (b.toNat:Int)).toNat=b.toNat:=by rw [BitVec.toNat_ofInt];omega
 rw [BitVec.toNat_xor,h1,h2,IntKind.wrap_u32]
 have:=PQ b hh
 omega
def yw (h b:Int):Int:=IntKind.u32.wrap (bits .xor .u32 h (IntKind.u32.wrap b)*16777619)
theorem yx(L:List UInt8)(b:UInt8):yw (fnv L) (b.toNat:Int)=(fnv (L++ [b]):Int):=by
 unfold yw
 have hb:=b.toNat_lt
 have hw:IntKind.u32.wrap (b.toNat:Int)=b.toNat:=by rw [IntKind.wrap_u32];omega
 rw [hw,RL b (Gn L),yu,D7,IntKind.wrap_u32]
 omega
theorem gb: ∀(n v:Nat),iO (n+1) v=UInt8.ofNat (48+v / 10 ^ n % 10)::iO n v
 |0,v=>by simp [iO]
 |n+1,v=>by
  rw [iO,gb n (v / 10)]
  rw [Nat.div_div_eq_div_mul,show 10*10 ^ n=10 ^(n+1) by rw [Nat.pow_succ];omega]
  rfl
theorem Gp{s j:Nat}(h:j<6):(iO 6 s).getD j 0=UInt8.ofNat (48+s / 10 ^(5 - j) % 10):=by
 rw [gb 5,gb 4,gb 3,gb 2,gb 1,gb 0]
 match j,h with
 |0,_=>rfl
 |1,_=>rfl
 |2,_=>rfl
 |3,_=>rfl
 |4,_=>rfl
 |5,_=>rfl
end Go.Vd
set_option maxHeartbeats 2000000
namespace Go.Vd
open Go.Proofs
theorem gD'(r:List UInt8)(i:Nat):r[i]?.getD 0=r.getD i 0:=(List.getD_eq_getElem?_getD ..).symm
theorem pY{L:List UInt8}(h: ¬L= []):isD L=L.all fL:=by
 rw [Bool.eq_iff_iff,pX,List.all_eq_true]
 exact ⟨fun h'=>h'.2,fun h'=>⟨h,h'⟩⟩
theorem Cr{b:UInt8}(h:b.toNat<48∨57<b.toNat):fL b=false:=by
 rw [Bool.eq_false_iff];intro h';have:=nu.1 h';omega
theorem yy{b:UInt8}(h:48<=b.toNat∧b.toNat<=57):fL b=true:=nu.2 h
attribute [local irreducible] vc
theorem JS(L:List UInt8)(hL:L.length<=1000000):GFn 122 (fun A=> [.str L]) (fun A=> .bool (A.tb fun _=>isD L)):=by
 refine aC aP ar ak Tryz.func122 (.one) fun A hA=> ?_
 cbv
 repeat' (first| (with_reducible first|exact vT|exact vD hA|exact vE hA|refine vA ?_ ?_) | (intro hc;cbv))
 · subst hA;simp [-List.getD_eq_getElem?_getD,sS,Gk,eA F8,eA yg,eA My,eA Pb] at*
   simp [hc,isD]
 refine ⟨⟨{i:Nat // i<=L.length∧(L.take i).all fL=true},fun b i=> [(3, .int .i64 (i.1:Nat))],fun b i=> [],fun i=>L.length - i.1,true⟩,⟨⟨0,by omega,by simp⟩, ?_⟩, ?_⟩
 · cbv
   subst hA
   simp [-List.getD_eq_getElem?_getD,sS]
 · have hne: ¬L= [] :=by subst hA;simpa [sS] using hc
   rintro ⟨i,hi,hz⟩
   clear hc
   cbv
   repeat' (first| (with_reducible first|exact vT|exact vD hA|exact vE hA|refine vA ?_ ?_) | (intro hc;cbv))
   all_goals first
    | (fail_if_success (refine Exists.intro ?_ ?_)
       subst hA
       simp [-List.getD_eq_getElem?_getD,sS,gD'] at*
       done)
    | (fail_if_success (refine Exists.intro ?_ ?_)
       subst hA
       simp [-List.getD_eq_getElem?_getD,sS,gD'] at*
       first
        |omega
        | (constructor<;>omega)
        | (have hlt:i<L.length:=by omega
           rw [pY hne,ij hlt (Cr (by omega))];done)
        | (rw [pY hne,List.all_eq_true]
           rw [List.take_of_length_le (by omega)] at hz
           exact hz)
)
    | (have hlt:i<L.length:=by clear hz;subst hA;simp [sS] at*;omega
       have hx:fL (L.getD i 0)=true:=by
        clear hz
        subst hA
        simp [-List.getD_eq_getElem?_getD,sS,gD'] at*
        exact yy (by omega)
       refine ⟨⟨i+1,by omega,by rw [k6 hlt,hz,hx];rfl⟩, ?_,show L.length - (i+1)<L.length - i by omega⟩
       cbv
       subst hA
       simp [sS]
       exact w64 (by omega))
theorem JT(L:List UInt8)(hL:L.length<=1000000):GFn 200 (fun A=> [.str L]) (fun A=> .bool (A.tb fun _=>isD L)):=by
 refine aC aP ar ak Tryz.func200 (.one) fun A hA=> ?_
 cbv
 repeat' (first| (with_reducible first|exact vT|exact vD hA|exact vE hA|refine vA ?_ ?_) | (intro hc;cbv))
 refine ⟨⟨{i:Nat // i<=L.length∧(L.take i).all fL=true},fun b i=> [(3, .int .i64 (i.1:Nat))],fun b i=> [],fun i=>L.length - i.1,true⟩,⟨⟨0,by omega,by simp⟩, ?_⟩, ?_⟩
 · cbv
   subst hA
   simp [-List.getD_eq_getElem?_getD,sS]
 · rintro ⟨i,hi,hz⟩
   cbv
   repeat' (first| (with_reducible first|exact vT|exact vD hA|exact vE hA|refine vA ?_ ?_) | (intro hc;cbv))
   all_goals first
    | (fail_if_success (refine Exists.intro ?_ ?_)
       subst hA
       simp [-List.getD_eq_getElem?_getD,sS,gD'] at*
       done)
    | (fail_if_success (refine Exists.intro ?_ ?_)
       subst hA
       simp [-List.getD_eq_getElem?_getD,sS,gD'] at*
       first
        |omega
        | (constructor<;>omega)
        | (have hlt:i<L.length:=by omega
           have hne: ¬L= [] :=fun e=>by rw [e] at hlt;simp at hlt
           rw [pY hne,ij hlt (Cr (by omega))];done)
        | (rw [List.take_of_length_le (by omega)] at hz
           by_cases hne:L= []
           · subst hne;rfl
           · rw [pY hne,List.all_eq_true.2 hz]
             have:=List.length_pos_iff.2 hne
             simp;omega)
)
    | (have hlt:i<L.length:=by clear hz;subst hA;simp [sS] at*;omega
       have hx:fL (L.getD i 0)=true:=by
        clear hz
        subst hA
        simp [-List.getD_eq_getElem?_getD,sS,gD'] at*
        exact yy (by omega)
       refine ⟨⟨i+1,by omega,by rw [k6 hlt,hz,hx];rfl⟩, ?_,show L.length - (i+1)<L.length - i by omega⟩
       cbv
       subst hA
       simp [sS]
       exact w64 (by omega))
theorem JU{L:List UInt8}(h:isD L=true){i:Nat}(hi:i<L.length):48<=(L.getD i 0).toNat∧(L.getD i 0).toNat<=57:=by
 apply nu.1
 apply (pX.1 h).2
 rw [List.getD_eq_getElem?_getD,gEE hi]
 exact List.getElem_mem hi
noncomputable def LG:Ct:=fun A args=>match args with
 | [.str L] =>some (some (A.tp fun _=>L.length<=1000000), .bool (A.tb fun _=>isD L))
 |_=>none
noncomputable def LH:Ct:=fun A args=>match args with
 | [.str L] =>some (some (A.tp fun _=>L.length<=1000000), .bool (A.tb fun _=>isD L))
 |_=>none
noncomputable def gg1:Ar->Pu:=aq 122 LG (aq 200 LH (noC))
theorem PR:az Tryz.prog gl0 (gg1 std):=by
 refine ao (ao (aP) ⟨_,Tryz.func200,rfl,by decide⟩ ?_) ⟨_,Tryz.func122,rfl,by decide⟩ ?_
 · intro args p r h hp
   unfold LH at h
   split at h<;>cases h
   exact JT _ hp
 · intro args p r h hp
   unfold LG at h
   split at h<;>cases h
   exact JS _ hp
end Go.Vd
namespace Go.Proofs
open Go.RowKit Go.Shelf
attribute [local go_sem] Oper.semAt_some
theorem NP{L:List UInt8}{k:Nat}(h:k<L.length):L.reverse.take k++ [L.getD (L.length - 1 - k) 0] =L.reverse.take (k+1):=by
 rw [<-Vd.JR (by omega),show L.length - 1 - (L.length - 1 - k)=k by omega]
 exact Vd.bk (by rw [List.length_reverse];exact h)
def KBs (Bs:Nat)(A B:World):Prop:= ∀ v,A.cell? ⟨Bs,0,none⟩=some v->B.cell? ⟨Bs,0,none⟩=some v
theorem PS{L:List UInt8}{i:Nat}(h:i<(ByteArray.mk L.toArray).size):(ByteArray.mk L.toArray)[i]'h=L.getD i 0:=by
 have h1:i<L.length:=by simpa [ByteArray.size] using h
 rw [List.getD_eq_getElem?_getD,List.getElem?_eq_getElem h1]
 rfl
set_option maxRecDepth 100000 in
set_option maxHeartbeats 2000000 in
theorem A6(F:Fence)(n:Nat)(h76:F.fn 208)(hro:F.round=none)(hn:1<=n)(l Bs:Nat)(L:List UInt8)(hL:L.length<=1000000)(J Jx:List UInt8->World->Prop)
 (hY: ∀ pre x W,J pre W->pre.length<L.length->YieldAt F (n - 1) Tryz.prog l #[.int .u8 (x.toNat:Int)] W fun e W'=>
   (e= .returned (.bool true)∧J (pre++ [x]) W'∧KBs Bs W W')∨(e= .returned (.bool false)∧Jx (pre++ [x]) W'))
 (W:World) (hBs:W.cell? ⟨Bs,0,none⟩=some (.string ⟨L.toArray⟩)) (h0:J [] W):
 CallsIn F n Tryz.prog 208 #[.func (.yield l) #[] #[], .pointer (some ⟨Bs,0,none⟩)] W fun e W'=>(∃ v,e= .returned v)∧
  ((∃ ys,ys=L.reverse∧J ys W')∨(∃ pre,pre<+:L.reverse∧Jx pre W')):=by
 refine callsIn_of_wp Tryz.func208 rfl h76 ?_ hro
 simp only [Tryz.ntmps208,List.size_toArray,List.length_cons,List.length_nil,Nat.reduceAdd,Nat.reduceSub,Array.replicate_succ,Array.replicate_zero,List.push_toArray,List.append_toArray,List.nil_append,List.cons_append]
 gi_wp2
 gi_loopw [3] (fun i wr=> ∃ k:Nat,k<=L.length∧i= .int .i64 ((L.length:Int) - 1 - k)∧J (L.reverse.take k) wr∧wr.cell? ⟨Bs,0,none⟩=some (.string ⟨L.toArray⟩))
  (fun i _=>(intOf i+1).toNat)
 case atStart=>exact ⟨0,Nat.zero_le _,by simp,h0,hBs⟩
 case round=>
  obtain ⟨k,hk,rfl,hJs,hs⟩:=hrel
  by_cases hlt:k<L.length
  · have hx:L.length - 1 - k<(ByteArray.mk L.toArray).size:=by simp [ByteArray.size];omega
    obtain ⟨fn,tmps,assign,body,hy,hR⟩:=hY _ ((ByteArray.mk L.toArray)[L.length - 1 - k]'hx) wr hJs (by rw [List.length_take];simp;omega)
    have h1:(0:Int)<=(L.length:Int) - 1 - k:=by omega
    have ht:L.reverse.take k++ [(ByteArray.mk L.toArray)[L.length - 1 - k]'hx] =L.reverse.take (k+1):=by rw [PS];exact NP hlt
    gi_wp2
    refine hR.mono ?_
    rintro e W3 (⟨rfl,hJ3,hk3⟩ | ⟨rfl,hJx3⟩)
    · rw [ht] at hJ3
      gi_wp2
      go_roundw
      case rel=>exact ⟨k+1,by omega,by first|rfl| (congr 1;omega) | (simp;omega),hJ3,hk3 _ hs⟩
      case measure=>simp [intOf];omega
    · rw [ht] at hJx3
      gi_wp2
      refine bodyPost_ret (results_none rfl _ _ _) rfl ?_
      exact ⟨⟨_,rfl⟩, .inr ⟨_,⟨L.reverse.drop (k+1),List.take_append_drop _ _⟩,hJx3⟩⟩
  · obtain rfl:k=L.length:=by omega
    gi_wp2
    have hJf:J L.reverse wr:=by rw [List.take_of_length_le (by simp)] at hJs;exact hJs
    go_end0
    exact ⟨⟨_,rfl⟩, .inl ⟨_,rfl,hJf⟩⟩
theorem uX(W:World)(v:Value)(t:TypeId):(W.alloc (.cells #[v] t)).cell? ⟨W.heap.size,0,none⟩=some v∧(W.alloc (.cells #[v] t)).frozen? ⟨W.heap.size,0,none⟩=false:=⟨by simp,by simp⟩
theorem pZ{W:World}{a:Addr}{v:Value}(o:Obj)(h:W.cell? a=some v):(W.alloc o).cell? a=some v:=cell_kept h (World.grownBy_alloc W o none) (fun r e=>by cases e)
theorem rK{W:World}{a:Addr}{v:Value}(o:Obj)(h:W.cell? a=some v)(hf:W.frozen? a=false):(W.alloc o).frozen? a=false:=(frozen_kept h (World.grownBy_alloc W o none) (fun r e=>by cases e)).trans hf
set_option maxHeartbeats 1000000 in
theorem D9(F:Fence)(n:Nat)(h58:F.fn 169)(hro:F.round=none)(s:ByteArray)(w:World):
 CallsIn F n Tryz.prog 169 #[.string s] w fun e w'=>e= .returned (.func (.func 208) #[] #[.pointer (some ⟨w.heap.size,0,none⟩)])∧w'=w.alloc (.cells #[.string s] 9):=by
 refine callsIn_of_wp Tryz.func169 rfl h58 ?_ hro
 simp only [Tryz.ntmps169,List.size_toArray,List.length_cons,List.length_nil,Nat.reduceAdd,Nat.reduceSub,Array.replicate_succ,Array.replicate_zero,List.push_toArray,List.append_toArray,List.nil_append,List.cons_append]
 gi_wp2
 go_ret
 exact ⟨rfl,rfl⟩
theorem wM(F:Fence)(n:Nat)(h76:F.fn 208)(hro:F.round=none)(hn:1<=n)(Bs:Nat)(L:List UInt8)(hL:L.length<=1000000)(w:World)(hBs:Bs<w.heap.size)(hc:w.cell? ⟨Bs,0,none⟩=some (.string ⟨L.toArray⟩)):
 SeqStopsK F n Tryz.prog 208 #[.pointer (some ⟨Bs,0,none⟩)] (fun x:UInt8=> #[Value.int .u8 (x.toNat:Int)]) (KBs Bs) (fun ys=>ys=L.reverse) (fun pre=>pre<+:L.reverse) L.length w:=fun l J Jx W hW _ _ hY h0=>by
 have hc':=(hW.cell (p:=⟨Bs,0,none⟩) hBs).trans hc
 exact A6 F n h76 hro hn l Bs L hL J Jx hY W hc' h0
set_option maxHeartbeats 1000000 in
theorem Gq(F:Fence)(n:Nat)(h59:F.fn 170)(hro:F.round=none)(d:Nat)(hd:d<256)(t:Bool)(w:World):
 CallsIn F n Tryz.prog 170 #[.int .i64 (d:Int), .bool t] w fun e w'=>e= .returned (.int .i64 (Vd.lW d t:Int))∧w'=w:=by
 refine callsIn_of_wp Tryz.func170 rfl h59 ?_ hro
 simp only [Tryz.ntmps170,List.size_toArray,List.length_cons,List.length_nil,Nat.reduceAdd,Nat.reduceSub,Array.replicate_succ,Array.replicate_zero,List.push_toArray,List.append_toArray,List.nil_append,List.cons_append]
 have e1:Vd.lW d false=d:=rfl
 cases t
 · gi_wp2
   go_ret
   exact ⟨by rw [e1];rfl,rfl⟩
 · by_cases h:4<d
   · have e2:((Vd.lW d true:Nat):Int)=2*(d:Int) - 9:=by
      have e3:Vd.lW d true+9=2*d:=by (simp only [Vd.lW,if_true];rw [if_pos (by omega)];omega)
      omega
     gi_wp2
     go_ret
     exact ⟨by rw [e2];rfl,rfl⟩
   · have e2:((Vd.lW d true:Nat):Int)=2*(d:Int):=by
      have e3:Vd.lW d true=2*d:=by (simp only [Vd.lW,if_true];rw [if_neg (by omega)])
      omega
     gi_wp2
     go_ret
     exact ⟨by rw [e2];rfl,rfl⟩
def jZ (b:UInt8):Nat:=(b.toNat+208) % 256
def eC:List UInt8->Bool->Nat
 | [],_=>0
 |b::R,t=>Vd.lW (jZ b) t+eC R (!t)
theorem nv: ∀(R:List UInt8) (b:UInt8) (t:Bool),eC (R++ [b]) t=eC R t+Vd.lW (jZ b) (t ^^ Vd.odd R.length)
 | [],b,t=>by simp [eC,Vd.odd]
 |c::R,b,t=>by
  simp only [List.cons_append,eC,nv R b,List.length_cons,Vd.odd]
  cases t<;>simp<;>omega
theorem LJ(d:Nat)(t:Bool)(h:d<256):Vd.lW d t<=510:=by
 unfold Vd.lW;cases t<;>simp<;>(try split)<;>omega
theorem rL: ∀(R:List UInt8) (t:Bool),eC R t<=510*R.length
 | [],_=>by simp [eC]
 |b::R,t=>by
  have h1:=rL R (!t)
  have h2:=LJ (jZ b) t (Nat.mod_lt _ (by omega))
  simp only [eC,List.length_cons]
  omega
theorem rM: ∀(R:List UInt8) (t:Bool),(∀ b∈R,Vd.fL b=true)->eC R t=Vd.fy R t
 | [],_,_=>rfl
 |b::R,t,h=>by
  have hb:=Vd.nu.1 (h b (by simp))
  have e:jZ b=Vd.dig b:=by unfold jZ Vd.dig;omega
  simp only [eC,Vd.fy,e,rM R (!t) fun c hc=>h c (by simp [hc])]
theorem NQ{t:Bool}{w W:World}{pre:List UInt8}{x:UInt8}{v0 v1 u0 u1:Value}(hc0:W.cell? ⟨w.heap.size,0,none⟩=some u0)(hf0:W.frozen? ⟨w.heap.size,0,none⟩=false)(hc1:W.cell? ⟨w.heap.size+1,0,none⟩=some u1)(hf1:W.frozen? ⟨w.heap.size+1,0,none⟩=false)
 (hB:Below w.heap.size w W) (W':World) (hW':W'=((W.setCell ⟨w.heap.size+1,0,none⟩ v1).setCell ⟨w.heap.size,0,none⟩ v0).drew):
 KeepsOthers W W'∧KBs (w.heap.size+1+1) W W'∧((W'.cell? ⟨w.heap.size,0,none⟩=some v0∧W'.frozen? ⟨w.heap.size,0,none⟩=false)∧(W'.cell? ⟨w.heap.size+1,0,none⟩=some v1∧W'.frozen? ⟨w.heap.size+1,0,none⟩=false))∧Below w.heap.size w W':=by
 subst hW'
 have hne:(⟨w.heap.size,0,none⟩:Addr)≠⟨w.heap.size+1,0,none⟩:=fun e=>by injection e;omega
 have hn0:(⟨w.heap.size,0,none⟩:Addr)≠⟨w.heap.size+1+1,0,none⟩:=fun e=>by injection e;omega
 have hn1:(⟨w.heap.size+1,0,none⟩:Addr)≠⟨w.heap.size+1+1,0,none⟩:=fun e=>by injection e;omega
 have hk:(W.setCell ⟨w.heap.size+1,0,none⟩ v1).cell? ⟨w.heap.size,0,none⟩=some u0:=by rw [World.cell?_setCell_other _ _ _ _ (Ne.symm hne)];exact hc0
 refine ⟨((KeepsOthers.setCell _ _ _).trans (KeepsOthers.setCell _ _ _)).trans (KeepsOthers.drew _),fun v hv=> ?_,⟨⟨?_, ?_⟩, ?_, ?_⟩, ?_⟩
 · rw [World.cell?_drew,World.cell?_setCell_other _ _ _ _ hn0,World.cell?_setCell_other _ _ _ _ hn1];exact hv
 · rw [World.cell?_drew];exact World.cell?_setCell_same _ _ _ hk
 · rw [frozen_drew_own,World.frozen?_setCell,World.frozen?_setCell];exact hf0
 · rw [World.cell?_drew,World.cell?_setCell_other _ _ _ _ hne];exact World.cell?_setCell_same _ _ _ hc1
 · rw [frozen_drew_own,World.frozen?_setCell,World.frozen?_setCell];exact hf1
 · exact ((hB.setCell (p:=⟨w.heap.size+1,0,none⟩) (by simp) _).setCell (p:=⟨w.heap.size,0,none⟩) (Nat.le_refl _) _).drew
set_option maxRecDepth 100000 in
set_option maxHeartbeats 4000000 in
theorem PT(F:Fence)(n:Nat)(h38:F.fn 123)(h58:F.fn 169)(h76:F.fn 208)(h59:F.fn 170)(hro:F.round=none)(hn:3<=n)(L:List UInt8)(hL:L.length<=1000000)(t:Bool)(w:World):
 CallsIn F n Tryz.prog 123 #[.string ⟨L.toArray⟩, .bool t] w fun e w'=>e= .returned (.int .i64 (eC L.reverse t:Int))∧Below w.heap.size w w':=by
 have h1:1<=n:=by omega
 refine callsIn_of_wp_marks Tryz.func123 rfl h38 ?_ hro
 simp only [Tryz.ntmps123,List.size_toArray,List.length_cons,List.length_nil,Nat.reduceAdd,Nat.reduceSub,Array.replicate_succ,Array.replicate_zero,List.push_toArray,List.append_toArray,List.nil_append,List.cons_append]
 gi_wp2_with (gi_at_call 169;refine (D9 F (n - 1) h58 hro _ _).mono ?_;rintro e w' ⟨rfl,rfl⟩)
 have c0:=uX w (.bool t) 4
 have c1:=uX (w.alloc (.cells #[.bool t] 4)) (.int .i64 0) 3
 have c2:=uX ((w.alloc (.cells #[.bool t] 4)).alloc (.cells #[.int .i64 0] 3)) (.string ⟨L.toArray⟩) 9
 simp only [World.size_alloc] at c1 c2
 have hB0:Below w.heap.size w (((w.alloc (.cells #[.bool t] 4)).alloc (.cells #[.int .i64 0] 3)).alloc (.cells #[.string ⟨L.toArray⟩] 9)):=(((Below.refl _ w).alloc (Nat.le_refl _) _).alloc (by simp) _).alloc (by simp;omega) _
 refine wpIn_rangeFunc_ownF hro h1 (gf:=208) (lb:= #[.pointer (some ⟨w.heap.size+1+1,0,none⟩)]) rfl h76 (enters_of Tryz.func208 (by kernel_rfl) rfl)
  (wM F (n - 1) h76 hro (by omega) (w.heap.size+1+1) L hL _ (by simp) c2.1) (fun h k v hv=>k v (h v hv)) (fun W l o o' _ h0 hc _ v hv=>cell_kept hv (grownBy_putObj' _ l o') (fun r e=>by cases e;exact ⟨_,h0,hc⟩)) (Below.refl _ _) (fun _=>rfl)
  (fun pre W=>((W.cell? ⟨w.heap.size,0,none⟩=some (.bool (t ^^ Vd.odd pre.length))∧W.frozen? ⟨w.heap.size,0,none⟩=false)∧(W.cell? ⟨w.heap.size+1,0,none⟩=some (.int .i64 (eC pre t:Int))∧W.frozen? ⟨w.heap.size+1,0,none⟩=false))∧Below w.heap.size w W)
  (fun _ _ _=>False)
  (OwnFrom.and (Own.from (fun s A B row hs hg hr=>⟨⟨cell_kept hs.1.1 hg hr,(frozen_kept hs.1.1 hg hr).trans hs.1.2⟩,cell_kept hs.2.1 hg hr,(frozen_kept hs.2.1 hg hr).trans hs.2.2⟩) _) (ownFrom_below (Nat.le_refl _) (by simp;omega)))
  (fun _ _ _ _ _ hs _ _=>hs)
  ⟨⟨⟨by rw [show (t ^^ Vd.odd ([] :List UInt8).length)=t by simp [Vd.odd]];exact pZ _ (pZ _ c0.1),rK _ (pZ _ c0.1) (rK _ c0.1 c0.2)⟩,pZ _ c1.1,rK _ c1.1 c1.2⟩,hB0⟩
  (fun x=> { tmps:= #[.string ⟨L.toArray⟩, .bool t,undef, .pointer (some ⟨w.heap.size,0,none⟩), .int .i64 0, .pointer (some ⟨w.heap.size+1,0,none⟩), .int .u8 (x.toNat:Int), .string ⟨L.toArray⟩, .func (.func 208) #[] #[.pointer (some ⟨w.heap.size+1+1,0,none⟩)], .int .u8 (x.toNat:Int),undef,undef,undef,undef,undef,undef,undef,undef,undef,undef],defers:= [] }) ?assign ?body ?done ?stop
 case assign=>
  intro l x W K hK
  gi_wp2
  exact hK
 case body=>
  rintro l pre x W ⟨⟨⟨hc0,hf0⟩,hc1,hf1⟩,hB⟩ hlen
  have hd:1<=n - 1 - 1:=by omega
  have hmx:Tryz.prog.follows .mixedOrders=true:=by kernel_rfl
  have hle:=rL pre t
  have hd8:jZ x<256:=Nat.mod_lt _ (by omega)
  have hlw:=LJ (jZ x) (t ^^ Vd.odd pre.length) hd8
  have hsum:wrap64 ((eC pre t:Int)+(Vd.lW (jZ x) (t ^^ Vd.odd pre.length):Int))=(eC (pre++ [x]) t:Int):=by
   rw [nv]
   unfold wrap64
   omega
  have hodd:(!(t ^^ Vd.odd pre.length))=(t ^^ Vd.odd (pre++ [x]).length):=by
   rw [List.length_append,List.length_singleton,Vd.odd]
   cases t<;>simp
  have hw8:IntKind.i64.wrap (IntKind.u8.wrap ((x.toNat:Int) - 48))=(jZ x:Int):=by
   have hx:=x.toNat_lt
   rw [IntKind.wrap_u8,IntKind.wrap_i64]
   unfold jZ
   omega
  gi_wp2
  gi_region_with_o (gi_at_call 170;refine (CallsIn.inRound l (Gq F _ h59 hro (jZ x) hd8 _ _)).mono ?_;rintro e w' ⟨rfl,rfl⟩)
  all_goals gi_wp2
  all_goals (try go_bits)
  all_goals (have he:((eC pre t:Int)+(Vd.lW (jZ x) (t ^^ Vd.odd pre.length):Int))=(eC (pre++ [x]) t:Int):=by rw [nv];omega)
  all_goals (have hbt:(t ^^ Vd.odd (pre.length+1))=(t ^^ Vd.odd (pre++ [x]).length):=by simp)
  all_goals (try rw [hsum])
  all_goals (try rw [he])
  all_goals (try rw [hodd])
  all_goals (try rw [hbt])
  all_goals (exact NQ (t:=t) (pre:=pre) (x:=x) hc0 hf0 hc1 hf1 hB _ rfl)
 case done=>
  rintro D ys W hD rfl ⟨⟨_,hc1,_⟩,hB⟩ hK
  gi_wp2
  refine ⟨by simp, .inl ⟨_,_,rfl,run_takeDeferred hK, ?_⟩⟩
  exact ⟨_,results_tmp rfl _ _ _,rfl,hB.trans (belowK_b (w:=w) (Nat.le_refl _) W D _ _ (by simp at hD;omega) hK rfl rfl)⟩
 case stop=>
  rintro D c pre W _ _ h _
  exact h.elim
end Go.Proofs
namespace Go.Vd
open Go.Proofs
variable {b n n' len i i':Nat}
theorem Gr(L:List UInt8)(t:Bool)(hp:L.length<=1000000∧isD L=true):cS Tryz.prog gl0 123 [.str L, .bool t] (.int .i64 (std.ti fun _=>(fy L.reverse t:Int))):=by
 intro w ρ rw N vs hfr hrw hg hargs
 match vs,hargs with
 | [v1,v2],⟨r1,r2,_⟩=>
   generalize hs1:SV.str L=s1 at r1
   generalize hs2:SV.bool t=s2 at r2
   cases r1 with
   |str s=>
    cases r2 with
    |bool b=>
     cases hs1
     cases hs2
     have h0:=callsIn_wide.1 (PT Fence.wide 3 trivial trivial trivial trivial rfl (by omega) s.data.toList hp.1 t w)
     have e0:(⟨s.data.toList.toArray⟩:ByteArray)=s:=by cases s;simp
     rw [e0] at h0
     refine h0.mono fun e w' hq=> ?_
     obtain ⟨rfl,hb⟩:=hq
     refine ⟨_,rfl,Ext.of_below hb,fun key _=> ?_⟩
     have e1:eC s.data.toList.reverse t=fy s.data.toList.reverse t:=rM _ _ (fun b hb=>(pX.1 hp.2).2 b (by simpa using hb))
     rw [e1]
     exact Rel.int _ _
    |_=>cases hs2
   |_=>cases hs1
noncomputable def Gs:Ct:=fun A args=>match args with
 | [.str L, .bool t] =>some (some (A.tp fun _=>L.length<=1000000∧isD L=true), .int .i64 (A.ti fun _=>(fy L.reverse t:Int)))
 |_=>none
noncomputable def gg2:Ar->Pu:=aq 123 Gs (gg1)
theorem yz:az Tryz.prog gl0 (gg2 std):=by
 refine ao (PR) ⟨_,Tryz.func123,rfl,by decide⟩ ?_
 · intro args p r h hp
   unfold Gs at h
   split at h<;>cases h
   exact Gr _ _ hp
theorem PU(n:Nat):((n:Int).tmod 10==0)=decide (n % 10=0):=by
 rw [Bool.eq_iff_iff,beq_iff_eq,decide_eq_true_eq,Int.tmod_eq_emod_of_nonneg (by omega)]
 omega
attribute [local irreducible] vc
theorem Ea(L:List UInt8)(hL:L.length<=100000):GFn 73 (fun A=> [.str L]) (fun A=> .bool (A.tb fun _=>fS L)):=by
 refine aC yz ar ak Tryz.func73 (.one) fun A hA=> ?_
 cbv
 repeat' (first| (with_reducible first|exact vT|exact vD hA|exact vE hA|refine vA ?_ ?_) | (intro hc;cbv))
 all_goals (subst hA;simp [sS,fS] at*)
 all_goals first
  |omega
  |exact fun h=>⟨h,by omega,h⟩
  |rw [PU]
theorem Gt{L:List UInt8}(h:isD L=true):fy L.reverse false<=510*L.length:=by
 have h1:=rL L.reverse false
 rw [rM _ _ (fun b hb=>(pX.1 h).2 b (by simpa using hb)),List.length_reverse] at h1
 exact h1
theorem NS{L:List UInt8}{i:Nat}(hi:i<L.length):fy (L.drop i).reverse false=fy (L.drop (i+1)).reverse false+lW (dig (L.getD i 0)) (odd (L.length - i - 1)):=by
 have e:L.drop i=L.getD i 0::L.drop (i+1):=by
  rw [List.getD_eq_getElem?_getD,gEE hi]
  exact List.drop_eq_getElem_cons hi
 rw [e,List.reverse_cons,wg,List.length_reverse,List.length_drop,Bool.false_xor,show L.length - (i+1)=L.length - i - 1 by omega]
theorem Sy(b:Nat):lW b false=b:=rfl
theorem Sz{b:Nat}(h:b<=4):lW b true=2*b:=by simp only [lW,if_true];rw [if_neg (by omega)]
theorem SA{b:Nat}(h:4<b):lW b true=2*b - 9:=by simp only [lW,if_true];rw [if_pos h]
theorem RM{n:Nat}(h:n % 2=1):odd n=true:=by rw [uV,h];rfl
theorem RN{n:Nat}(h:n % 2=0):odd n=false:=by rw [uV,h];rfl
theorem par{len i:Nat}(hlt:i<len)(hL:len<=100000):((IntKind.i64.wrap ((len:Int) - i)).tmod 2=0->odd (len - i - 1)=true)∧(¬(IntKind.i64.wrap ((len:Int) - i)).tmod 2=0->odd (len - i - 1)=false):=by
 rw [w64 (by omega),Int.tmod_eq_emod_of_nonneg (by omega)]
 exact ⟨fun h=>RM (by omega),fun h=>RN (by omega)⟩
theorem dw{b:Nat}(h:48<=b∧b<=57):IntKind.i64.wrap (IntKind.i64.wrap (b:Int) - 48)=((b - 48:Nat):Int):=by
 rw [w64 (n:=(b:Int)) (by omega),w64 (by omega)]
 omega
theorem RO(hd:48<=b∧b<=57)(hlt:i<len)(hL:len<=100000)(hi':i'=i+1)(hn':n'=n+lW (b - 48) (odd (len - i - 1)))(hb:n'<=510*len)(hc: ¬(IntKind.i64.wrap ((len:Int) - i)).tmod 2=0):
 IntKind.i64.wrap ((n:Int)+IntKind.i64.wrap (IntKind.i64.wrap (b:Int) - 48))=(n':Int)∧IntKind.i64.wrap ((i:Int)+1)=(i':Int):=by
 rw [(par hlt hL).2 hc,Sy] at hn'
 rw [dw hd,w64 (by omega),w64 (by omega)]
 omega
theorem RP(hd:48<=b∧b<=57)(hlt:i<len)(hL:len<=100000)(hi':i'=i+1)(hn':n'=n+lW (b - 48) (odd (len - i - 1)))(hb:n'<=510*len)(c2:(IntKind.i64.wrap ((len:Int) - i)).tmod 2=0)(hc:IntKind.i64.wrap (2*IntKind.i64.wrap (IntKind.i64.wrap (b:Int) - 48))<=9):
 IntKind.i64.wrap ((n:Int)+IntKind.i64.wrap (2*IntKind.i64.wrap (IntKind.i64.wrap (b:Int) - 48)))=(n':Int)∧IntKind.i64.wrap ((i:Int)+1)=(i':Int):=by
 have e:IntKind.i64.wrap (2*((b - 48:Nat):Int))=((2*(b - 48):Nat):Int):=by rw [w64 (by omega)];omega
 rw [dw hd,e] at hc
 rw [(par hlt hL).1 c2,Sz (by omega)] at hn'
 rw [dw hd,e,w64 (by omega),w64 (by omega)]
 omega
theorem RQ(hd:48<=b∧b<=57)(hlt:i<len)(hL:len<=100000)(hi':i'=i+1)(hn':n'=n+lW (b - 48) (odd (len - i - 1)))(hb:n'<=510*len)(c2:(IntKind.i64.wrap ((len:Int) - i)).tmod 2=0)(hc:9<IntKind.i64.wrap (2*IntKind.i64.wrap (IntKind.i64.wrap (b:Int) - 48))):
 IntKind.i64.wrap ((n:Int)+IntKind.i64.wrap (IntKind.i64.wrap (2*IntKind.i64.wrap (IntKind.i64.wrap (b:Int) - 48)) - 9))=(n':Int)∧IntKind.i64.wrap ((i:Int)+1)=(i':Int):=by
 have e:IntKind.i64.wrap (2*((b - 48:Nat):Int))=((2*(b - 48):Nat):Int):=by rw [w64 (by omega)];omega
 rw [dw hd,e] at hc
 rw [(par hlt hL).1 c2,SA (by omega)] at hn'
 rw [dw hd,e,w64 (n:=((2*(b - 48):Nat):Int) - 9) (by omega),w64 (by omega),w64 (by omega)]
 omega
theorem Eb(L:List UInt8)(hL:L.length<=100000):GFn 151 (fun A=> [.str L]) (fun A=> .bool (A.tb fun _=>fS L)):=by
 refine aC yz ar ak Tryz.func151 (.one) fun A hA=> ?_
 cbv
 repeat' (first| (with_reducible first|exact vT|exact vD hA|exact vE hA|refine vA ?_ ?_) | (intro hc;cbv))
 rotate_right
 · have hk:isD L=true:=by
    subst hA
    simp [sS] at hc
    exact hc
   clear hc
   have hbd:=Gt hk
   refine ⟨⟨{p:Nat×Nat // p.1<=L.length∧p.2+fy (L.drop p.1).reverse false=fy L.reverse false},fun b p=> [(3, .int .i64 (p.1.2:Nat)),(4, .int .i64 (p.1.1:Nat)),(5, .any)],fun b p=> [],fun p=>L.length - p.1.1,true⟩,⟨⟨(0,0),by omega,by simp⟩, ?_⟩, ?_⟩
   · cbv
     subst hA
     simp [-List.getD_eq_getElem?_getD,sS]
   · rintro ⟨⟨i,n⟩,hi,hn⟩
     simp only at hi hn
     cbv
     repeat' (first| (with_reducible first|exact vT|exact vD hA|exact vE hA|refine vA ?_ ?_) | (intro hc;cbv))
     all_goals first
      | (fail_if_success (refine Exists.intro ?_ ?_)
         subst hA
         simp [-List.getD_eq_getElem?_getD,sS,gD'] at*
         done)
      | (fail_if_success (refine Exists.intro ?_ ?_)
         subst hA
         simp [-List.getD_eq_getElem?_getD,sS,gD'] at*
         omega)
      | (fail_if_success (refine Exists.intro ?_ ?_)
         have hie:i=L.length:=by (clear hn;subst hA;simp [sS] at*;omega)
         rw [hie,List.drop_length] at hn
         subst hA
         simp only [sS,Int.ofNat_eq_natCast]
         have hn2:n=fy L.reverse false:=hn
         rw [hn2]
         simp [fS,hk,PU])
      |skip
     all_goals
      (have hlt:i<L.length:=by clear hn;subst hA;simp [sS] at*;omega
       have hd:=JU hk hlt
       have hs:=NS hlt
       obtain ⟨d',hd'⟩: ∃ d',d'=lW (dig (L.getD i 0)) (odd (L.length - i - 1)):=⟨_,rfl⟩
       obtain ⟨i',hi'⟩: ∃ i',i'=i+1:=⟨_,rfl⟩
       obtain ⟨n',hn'⟩: ∃ n',n'=n+d':=⟨_,rfl⟩
       have hnn:n'+fy (L.drop i').reverse false=fy L.reverse false:=by rw [hi'];omega
       refine ⟨⟨(i',n'),by omega,hnn⟩, ?_,show L.length - i'<L.length - i by omega⟩
       have hb:n'<=510*L.length:=by omega
       have hg:dig (L.getD i 0)=(L.getD i 0).toNat - 48:=rfl
       cbv
       clear hn hnn hs hk hbd
       subst hA
       simp [-List.getD_eq_getElem?_getD,sS,gD'] at hc
       simp [-List.getD_eq_getElem?_getD,sS,gD']
       rw [hd'] at hn'
       rw [hg] at hn'
       first
        |with_reducible exact RO hd hlt hL hi' hn' hb hc
        | (rename_i c2
           simp [-List.getD_eq_getElem?_getD,sS,gD'] at c2
           first|with_reducible exact RP hd hlt hL hi' hn' hb c2 hc|with_reducible exact RQ hd hlt hL hi' hn' hb c2 hc))
 all_goals (subst hA;simp [sS,fS] at*)
 all_goals first
  |omega
  | (intro h;rw [hc] at h;cases h)
end Go.Vd
set_option maxHeartbeats 4000000
namespace Go.Vd
open Go.Proofs
noncomputable def Cs:Ct:=fun A args=>match args with
 | [.str L] =>some (some (A.tp fun _=>L.length<=100000), .bool (A.tb fun _=>fS L))
 |_=>none
noncomputable def Cu:Ct:=fun A args=>match args with
 | [.str L] =>some (some (A.tp fun _=>L.length<=100000), .bool (A.tb fun _=>fS L))
 |_=>none
noncomputable def ggL:Ar->Pu:=aq 73 Cs (aq 151 Cu (gg2))
theorem PV:az Tryz.prog gl0 (ggL std):=by
 refine ao (ao (yz) ⟨_,Tryz.func151,rfl,by decide⟩ ?_) ⟨_,Tryz.func73,rfl,by decide⟩ ?_
 · intro args p r h hp
   unfold Cu at h
   split at h<;>cases h
   exact Eb _ hp
 · intro args p r h hp
   unfold Cs at h
   split at h<;>cases h
   exact Ea _ hp
end Go.Vd
namespace Go.Vd
open Go.Proofs
variable {i:Nat}
theorem gD{L:List UInt8} :L[i]?.getD 0=L.getD i 0:=(List.getD_eq_getElem?_getD ..).symm
def FL:List Int:= [2,3,19,3,1,6,4,1,12,7,1,10,11,1,6,12,1,6,37,2,12,38,2,6,39,2,2,41,2,8,44,4,25,48,5,999,49,1,3,90,1,42,120,5,999]
def eQ:List Int->Int->Option (Int×Int)
 |a::b::c::r,n=>if a=n then some (b,c) else eQ r n
 |_,_=>none
def dOk (n:Int):Bool:=(eQ FL n).isSome
def dKd (n:Int):Int:=((eQ FL n).getD (0,0)).1
def dSz (n:Int):Int:=((eQ FL n).getD (0,0)).2
theorem LK{L:List Int}(h:i+2<L.length):L.drop i=L.getD i 0::L.getD (i+1) 0::L.getD (i+2) 0::L.drop (i+3):=by
 have e: ∀ {j:Nat} (hj:j<L.length),L[j] =L.getD j 0:=fun hj=>by rw [List.getD_eq_getElem?_getD,gEE hj];rfl
 rw [List.drop_eq_getElem_cons (by omega),List.drop_eq_getElem_cons (by omega),List.drop_eq_getElem_cons h,e,e,e]
theorem yA:FL.length=45:=rfl
theorem yB: ∀ L:List Int,bp (fun c x=> ∀ j,j<1->Ceq (ap c j) (ap (eZ std fun _=>x) j)) (L.map fun z=> [SV.int .i64 z]) L
 | [] =>trivial
 |x::l=>⟨uU x,yB l⟩
theorem PW:au eZ 0 1 45 (bf (FL.map fun z=> [SV.int .i64 z])) FL:=au.lst (yB FL)
attribute [local irreducible] vc
theorem yC:GFn 216 (fun A=> []) (fun A=>aF eZ 0 1 A fun _=>FL):=by
 refine aC aP ar ak Tryz.func216 (.none) fun A hA=> ?_
 cbv
 repeat' (first| (with_reducible first|exact vT|exact vD hA|exact vE hA|refine vA ?_ ?_) | (intro hc;cbv))
 all_goals (subst hA;simp only [sS])
 · rfl
 · exact PW.eqr
noncomputable def wh:Ct:=fun A args=>match args with
 | [] =>some (none,aF eZ 0 1 A fun _=>FL)
 |_=>none
noncomputable def gh1:Ar->Pu:=aq 216 wh (ggL)
theorem yD:az Tryz.prog gl0 (gh1 std):=by
 refine ao (PV) ⟨_,Tryz.func216,rfl,by decide⟩ ?_
 · intro args p r h hp
   unfold wh at h
   split at h<;>cases h
   exact yC
theorem Gu(n:Int):GFn 198 (fun A=> [.int .i64 n]) (fun A=> .tup [.agg [.int .i64 (A.ti fun _=>if dOk n then n else 0), .int .i64 (A.ti fun _=>dKd n), .int .i64 (A.ti fun _=>dSz n)], .bool (A.tb fun _=>dOk n)]):=by
 refine aC yD ar ak Tryz.func198 (.one) fun A hA=> ?_
 cbv
 repeat' (first| (with_reducible first|exact vT|exact vD hA|exact vE hA|refine vA ?_ ?_) | (intro hc;cbv))
 refine ⟨⟨{p:Nat×Nat // p.1<=15∧p.2=3*p.1∧eQ FL n=eQ (FL.drop p.2) n},fun b p=> [(5, .int .i64 (p.1.2:Nat))],fun b p=> [],fun p=>15 - p.1.1,true⟩,⟨⟨(0,0),by omega,rfl,rfl⟩, ?_⟩, ?_⟩
 · cbv
   subst hA
   simp [-List.getD_eq_getElem?_getD,sS]
 · rintro ⟨⟨j,i⟩,hj,hi,hd⟩
   simp only at hj hi hd
   have hL:=yA
   cbv
   repeat' (first| (with_reducible first|exact vT|exact vD hA|exact vE hA|refine vA ?_ ?_) | (intro hc;cbv))
   all_goals first
    | (fail_if_success (refine Exists.intro ?_ ?_)
       subst hA
       simp [-List.getD_eq_getElem?_getD,sS,hL] at*
       first
        |omega
        | (rw [w64 (by omega)];omega)
        | (constructor<;>(rw [w64 (by omega)];omega))
        | (have hq:FL.getD i 0=n:=by assumption
           rw [LK (by rw [yA];omega)] at hd
           simp only [eQ,if_pos hq] at hd
           have e1:(IntKind.i64.wrap ((i:Int)+1)).toNat=i+1:=by rw [w64 (by omega)];omega
           have e2:(IntKind.i64.wrap ((i:Int)+2)).toNat=i+2:=by rw [w64 (by omega)];omega
           simp [-List.getD_eq_getElem?_getD,dOk,dKd,dSz,hd,hq,e1,e2];done)
        | (have hie:i=45:=by omega
           rw [hie] at hd
           have hn:eQ (FL.drop 45) n=none:=rfl
           rw [hn] at hd
           simp [dOk,dKd,dSz,hd];done)
)
    | (have hlt:i<45:=by clear hd;subst hA;simp [sS,hL] at*;omega
       have h0: ¬FL.getD i 0=n:=by subst hA;simpa [-List.getD_eq_getElem?_getD,sS] using hc
       obtain ⟨i',hi'⟩: ∃ i',i'=i+3:=⟨_,rfl⟩
       rw [LK (by rw [hL];omega)] at hd
       simp only [eQ,if_neg h0] at hd
       refine ⟨⟨(j+1,i'),by omega,by omega,by rw [hi',hd]⟩, ?_,show 15 - (j+1)<15 - j by omega⟩
       cbv
       subst hA
       simp [sS]
       exact (w64 (by omega)).trans (by omega))
theorem A7(k:Int)(r:List UInt8)(hr:r.length<=1000000):GFn 199 (fun A=> [.int .i64 k, .str r]) (fun A=> .bool (A.tb fun _=>gS k r)):=by
 refine aC yD ar ak Tryz.func199 (.one) fun A hA=> ?_
 cbv
 repeat' (first| (with_reducible first|exact vT|exact vD hA|exact vE hA|refine vA ?_ ?_) | (intro hc;cbv))
 refine ⟨⟨{i:Nat // i<=r.length∧(r.take i).all (inS k)=true},fun b i=> [(5, .int .i64 (i.1:Nat))],fun b i=> [],fun i=>r.length - i.1,true⟩,⟨⟨0,by omega,by simp⟩, ?_⟩, ?_⟩
 · cbv
   subst hA
   simp [-List.getD_eq_getElem?_getD,sS]
 · rintro ⟨i,hi,hz⟩
   cbv
   repeat' (first| (with_reducible first|exact vT|exact vD hA|exact vE hA|refine vA ?_ ?_) | (intro hc;cbv))
   all_goals first
    | (fail_if_success (refine Exists.intro ?_ ?_)
       subst hA
       simp [-List.getD_eq_getElem?_getD,sS,gD] at*
       done)
    | (fail_if_success (refine Exists.intro ?_ ?_)
       subst hA
       simp [-List.getD_eq_getElem?_getD,sS,gD] at*
       first
        |omega
        | (constructor<;>omega)
        | (intros;(first|omega| (refine ⟨by omega, ?_⟩;omega)))
        | (have hlt:i<r.length:=by omega
           have hx:inS k (r.getD i 0)=false:=by (unfold inS;split<;>simp [-List.getD_eq_getElem?_getD,fL,okB]<;>omega)
           rw [gS,ij hlt hx];done)
        | (have hie:i=r.length:=by omega
           subst hie
           rw [gS,List.all_eq_true];simpa using hz)
)
    | (have hlt:i<r.length:=by clear hz;subst hA;simp [sS] at*;omega
       have hx:inS k (r.getD i 0)=true:=by
        clear hz
        subst hA
        simp [-List.getD_eq_getElem?_getD,sS,gD] at*
        unfold inS
        split<;>simp [-List.getD_eq_getElem?_getD,fL,okB]<;>omega
       refine ⟨⟨i+1,by omega,by rw [k6 hlt,hz,hx];rfl⟩, ?_,show r.length - (i+1)<r.length - i by omega⟩
       cbv
       subst hA
       simp [sS]
       exact w64 (by omega))
theorem JV(h:i<15):i=0∨i=1∨i=2∨i=3∨i=4∨i=5∨i=6∨i=7∨i=8∨i=9∨i=10∨i=11∨i=12∨i=13∨i=14:=by omega
theorem Gv(n:Int):GFn 206 (fun A=> [.int .i64 n]) (fun A=> .tup [.agg [.int .i64 (A.ti fun _=>if dOk n then n else 0), .int .i64 (A.ti fun _=>dKd n), .int .i64 (A.ti fun _=>dSz n)], .bool (A.tb fun _=>dOk n)]):=by
 refine aC aP ar ak Tryz.func206 (.one) fun A hA=> ?_
 cbv
 repeat' (first| (with_reducible first|exact vT|exact vD hA|exact vE hA|refine vA ?_ ?_) | (intro hc;cbv))
 refine ⟨⟨{i:Nat // i<=15∧eQ FL n=eQ (FL.drop (3*i)) n},fun b i=> [(7, .int .i64 (i.1:Nat))],fun b i=> [],fun i=>15 - i.1,true⟩,⟨⟨0,by omega,rfl⟩, ?_⟩, ?_⟩
 · cbv
   subst hA
   simp [-List.getD_eq_getElem?_getD,sS]
 · rintro ⟨i,hi,hd⟩
   cbv
   repeat' (first| (with_reducible first|exact vT|exact vD hA|exact vE hA|refine vA ?_ ?_) | (intro hc;cbv))
   all_goals first
    | (fail_if_success (refine Exists.intro ?_ ?_)
       subst hA
       have hlt:i<15:=by (clear hd;simp [sS] at*;omega)
       rcases JV hlt with h|h|h|h|h|h|h|h|h|h|h|h|h|h|h<;>subst h<;>first
        | (simp [sS,ap,Co];done)
        | (simp [sS,ap] at hc ⊢;subst hc;decide)
)
    | (fail_if_success (refine Exists.intro ?_ ?_)
       subst hA
       have hie:i=15:=by (simp [sS] at*;omega)
       rw [hie,show eQ (FL.drop (3*15)) n=none from rfl] at hd
       simp [sS,dOk,dKd,dSz,hd];done)
    | (have hlt:i<15:=by (clear hd;subst hA;simp [sS] at*;omega)
       obtain ⟨i',hi'⟩: ∃ i',i'=i+1:=⟨_,rfl⟩
       refine ⟨⟨i',by omega, ?_⟩, ?_,show 15 - i'<15 - i by omega⟩
       · subst hA hi'
         rw [hd]
         rcases JV hlt with h|h|h|h|h|h|h|h|h|h|h|h|h|h|h<;>subst h<;>simp [sS,ap] at hc<;>simp [FL,eQ,hc]
       · cbv
         subst hA
         simp [sS]
         exact (w64 (by omega)).trans (by omega))
end Go.Vd
namespace Go.Proofs
open Go.RowKit
theorem Cv{s:ByteArray}{i:Nat}(h:i<s.size):s[i]'h=s.data.toList.getD i 0:=by
 rw [List.getD_eq_getElem?_getD,List.getElem?_eq_getElem (by simpa using h)]
 simp
 rfl
set_option maxRecDepth 100000 in
set_option maxHeartbeats 2000000 in
theorem A8(s:ByteArray)(w:World):
 Calls Tryz.prog 218 #[.string s] w fun e w'=>e= .returned (.bool (s.data.toList.all Vd.okB))∧ ∃ pos,w'=w.iter s pos:=by
 have hsz:s.data.toList.length=s.size:=by simp
 go_enter Tryz.func218,Tryz.ntmps218
 go_wp2
 go_loopw [4] (fun _ w'=> ∃ pos:Nat,w'=w.iter s pos∧pos<=s.size∧(s.data.toList.take pos).all Vd.okB=true) (fun _ w'=>s.size - w'.iterPos w.heap.size)
 case atStart=>exact ⟨0,rfl,by omega,by simp⟩
 case round=>
  obtain ⟨pos,rfl,hle,hall⟩:=hrel
  by_cases hp:pos<s.size
  · by_cases ha:(s[pos]'hp).toNat<128
    · have hp':pos<s.data.size:=hp
      have hnx: ∀ ty,(Instr.next (.pointer (some ⟨w.heap.size,0,none⟩)) true ty).run Tryz.prog (w.iter s pos)= .ok (.tuple #[.bool true, .int .i64 pos, .int .i32 ((s.data[pos]'hp').toNat:Int)]) (w.iter s (pos+1)):=fun ty=>run_next_ascii w s pos ty hp ha
      have hb:s.data[pos]'hp'=s.data.toList.getD pos 0:=Cv hp
      have hok:Vd.okB (s.data[pos]'hp')=true↔32<=(s.data[pos]'hp').toNat∧(s.data[pos]'hp').toNat<=126:=by simp [Vd.okB]
      have hno:Vd.okB (s.data[pos]'hp')=false->s.data.toList.all Vd.okB=false:=fun h=>Vd.ij (i:=pos) (by omega) (by rw [<-hb];exact h)
      by_cases h1:(((s.data[pos]'hp').toNat:Nat):Int)<32
      · have hf:=hno (by cases h:Vd.okB (s.data[pos]'hp');rfl;have:=hok.1 h;omega)
        clear hok hno hb
        go_wp2
        go_ret
        exact ⟨by first|rfl| (rw [hf];rfl),_,rfl⟩
      · by_cases h2:(126:Int)<(((s.data[pos]'hp').toNat:Nat):Int)
        · have hf:=hno (by cases h:Vd.okB (s.data[pos]'hp');rfl;have:=hok.1 h;omega)
          clear hok hno hb
          go_wp2
          go_ret
          exact ⟨by first|rfl| (rw [hf];rfl),_,rfl⟩
        · have hy:(s.data.toList.take (pos+1)).all Vd.okB=true:=by
           rw [Vd.k6 (by omega),hall,<-hb,hok.2 (by omega)]
           rfl
          clear hok hno hb
          go_wp2
          go_roundw
          case rel=>exact ⟨pos+1,rfl,by omega,hy⟩
          case measure=>
           simp
           omega
    · have hd:=decode_high s pos hp (by omega)
      have hnx: ∀ ty,(Instr.next (.pointer (some ⟨w.heap.size,0,none⟩)) true ty).run Tryz.prog (w.iter s pos)=_:=fun ty=>run_next_any w s pos ty hp
      have hb:=Cv hp
      have hno:s.data.toList.all Vd.okB=false:=Vd.ij (i:=pos) (by omega) (by
       rw [<-hb]
       simp [Vd.okB]
       omega)
      generalize (Utf8.decode s pos).1=r at*
      have h1: ¬((r:Nat):Int)<32:=by omega
      have h2:(126:Int)<((r:Nat):Int):=by omega
      go_wp2
      go_ret
      exact ⟨by first|rfl| (rw [hno];rfl),_,rfl⟩
  · have hnx: ∀ ty,(Instr.next (.pointer (some ⟨w.heap.size,0,none⟩)) true ty).run Tryz.prog (w.iter s pos)=_:=fun ty=>run_next_end w s pos ty hp
    go_wp2
    go_ret
    rw [List.take_of_length_le (by omega)] at hall
    exact ⟨by first|rfl| (rw [hall];rfl),_,rfl⟩
end Go.Proofs
namespace Go.Vd
open Go.Proofs
theorem A9(L:List UInt8):cS Tryz.prog gl0 218 [.str L] (.bool (std.tb fun _=>L.all okB)):=by
 intro w ρ rw N vs hfr hrw hg hargs
 match vs,hargs with
 | [v1],⟨r1,_⟩=>
   generalize hs1:SV.str L=s1 at r1
   cases r1 with
   |str s=>
    cases hs1
    refine (A8 s w).mono fun e w' hq=> ?_
    obtain ⟨rfl,pos,rfl⟩:=hq
    refine ⟨_,rfl,Ext.alloc _ _,fun key _=> ?_⟩
    exact Rel.bool _
   |_=>cases hs1
end Go.Vd
namespace Go.Vd
open Go.Proofs
variable {s:List UInt8} {n:Int}
noncomputable def iF:Nat->Option Func:=bY 207 Tryz.f207 (bY 238 Tryz.f238 (bY 239 Tryz.f239 (bY 240 Tryz.f240 (bY 241 Tryz.f241 noI))))
theorem RR:gF Tryz.prog iF:=bc (bc (bc (bc (bc ak Tryz.func241 (by kernel_rfl)) Tryz.func240 (by kernel_rfl)) Tryz.func239 (by kernel_rfl)) Tryz.func238 (by kernel_rfl)) Tryz.func207 (by kernel_rfl)
def xFm:Nat->String->Option Nat
 |260, "paydesk/field.right" =>some 239
 |260, "paydesk/field.ahead" =>some 238
 |262, "paydesk/field.right" =>some 241
 |262, "paydesk/field.ahead" =>some 240
 |_,_=>none
def xF:Ar->Xt:=fun _=> { meth:=xFm,wt:=fun _ _ _ _ _ _=>none }
theorem RS:XtOk Tryz.prog gl0 (xF std):=⟨fun t name f h=>by
 have h:xFm t name=some f:=h
 unfold xFm at h
 split at h<;>cases h<;>exact fun v args w=>by kernel_rfl,fun f e k n g rest p n2 g2 h=>by cases h⟩
def isT (L:List UInt8):Bool:=L.all okB
noncomputable def yE:Ct:=fun A args=>match args with
 | [.str L] =>some (none, .bool (A.tb fun _=>isT L))
 |_=>none
noncomputable def Gw:Ct:=fun A args=>match args with
 | [.int .i64 n] =>some (none, .tup [.agg [.int .i64 (A.ti fun _=>if dOk n then n else 0), .int .i64 (A.ti fun _=>dKd n), .int .i64 (A.ti fun _=>dSz n)], .bool (A.tb fun _=>dOk n)])
 |_=>none
noncomputable def Gx:Ct:=fun A args=>match args with
 | [.int .i64 n] =>some (none, .tup [.agg [.int .i64 (A.ti fun _=>if dOk n then n else 0), .int .i64 (A.ti fun _=>dKd n), .int .i64 (A.ti fun _=>dSz n)], .bool (A.tb fun _=>dOk n)])
 |_=>none
noncomputable def yF:Ct:=fun A args=>match args with
 | [.int .i64 k, .str r] =>some (some (A.tp fun _=>r.length<=1000000), .bool (A.tb fun _=>gS k r))
 |_=>none
noncomputable def gh2:Ar->Pu:=aq 218 yE (aq 206 Gw (aq 198 Gx (aq 199 yF (gh1))))
theorem Gy:az Tryz.prog gl0 (gh2 std):=by
 refine ao (ao (ao (ao (yD) ⟨_,Tryz.func199,rfl,by decide⟩ ?_) ⟨_,Tryz.func198,rfl,by decide⟩ ?_) ⟨_,Tryz.func206,rfl,by decide⟩ ?_) ⟨_,Tryz.func218,rfl,by decide⟩ ?_
 · intro args p r h hp
   unfold yF at h
   split at h<;>cases h
   exact A7 _ _ hp
 · intro args p r h hp
   unfold Gx at h
   split at h<;>cases h
   exact Gu _
 · intro args p r h hp
   unfold Gw at h
   split at h<;>cases h
   exact Gv _
 · intro args p r h hp
   unfold yE at h
   split at h<;>cases h
   exact A9 _
def rr (n:Int)(s:List UInt8):Bool:=if dOk n=true∧ ¬s= [] ∧(s.length:Int)<=dSz n∧(dKd n<3->dSz n<=s.length) then gS (dKd n) s else false
theorem wi: ∀(L:List Int) (n:Int) (p:Int×Int),eQ L n=some p-> ∃ j,L.getD (3*j) 0=n∧L.getD (3*j+1) 0=p.1∧L.getD (3*j+2) 0=p.2∧3*j+2<L.length
 |a::b::c::r,n,p,h=>by
  simp only [eQ] at h
  split at h
  · rename_i he
    cases h
    exact ⟨0,he,rfl,rfl,by simp⟩
  · obtain ⟨j,h1,h2,h3,h4⟩:=wi r n p h
    refine ⟨j+1, ?_, ?_, ?_,by simp only [List.length_cons];omega⟩
    · rw [show 3*(j+1)=3*j+1+1+1 by omega];simpa using h1
    · rw [show 3*(j+1)+1=3*j+1+1+1+1 by omega];simpa using h2
    · rw [show 3*(j+1)+2=3*j+2+1+1+1 by omega];simpa using h3
 | [],_,_,h=>by cases h
 | [_],_,_,h=>by cases h
 | [_,_],_,_,h=>by cases h
theorem Ec(h:dOk n=true):1<=dKd n∧dKd n<=5∧1<=dSz n∧dSz n<=999∧2<=n∧n<=120∧(dKd n<5->dSz n<=99):=by
 unfold dOk at h
 obtain ⟨p,hp⟩:=Option.isSome_iff_exists.1 h
 obtain ⟨j,h1,h2,h3,h4⟩:=wi FL n p hp
 have hk:dKd n=p.1:=by unfold dKd;rw [hp];rfl
 have hs:dSz n=p.2:=by unfold dSz;rw [hp];rfl
 rw [hk,hs,<-h2,<-h3,<-h1]
 have hj:j<15:=by rw [yA] at h4;omega
 rcases JV hj with h|h|h|h|h|h|h|h|h|h|h|h|h|h|h<;>subst h<;>decide
theorem Gz(h: ¬s= []):isD s=s.all fL:=by
 unfold isD
 cases s with
 |nil=>exact absurd rfl h
 |cons b s=>rfl
theorem GA{k:Int}(h:k=1∨k=3)(s:List UInt8):gS k s=s.all fL:=by
 unfold gS
 have:inS k=fL:=by funext b;unfold inS;rw [if_pos h]
 rw [this]
theorem GB{k:Int}(h: ¬(k=1∨k=3))(s:List UInt8):gS k s=s.all okB:=by
 unfold gS
 have:inS k=okB:=by funext b;unfold inS;rw [if_neg h]
 rw [this]
theorem GC{z:Int}(hz:1<=z)(h:(s.length:Int)=z): ¬s= [] :=fun e=>by rw [e] at h;simp at h;omega
theorem yG(h:dOk n=true)(hk:dKd n<3):rr n s=(decide ((s.length:Int)=dSz n)&& gS (dKd n) s):=by
 have hb:=Ec h
 unfold rr
 by_cases hl:(s.length:Int)=dSz n
 · rw [if_pos ⟨h,GC hb.2.2.1 hl,by omega,fun _=>by omega⟩];simp [hl]
 · rw [if_neg (fun e=>hl (by have:=e.2.2.2 hk;have:=e.2.2.1;omega))];simp [hl]
theorem uY(h:dOk n=true)(hk: ¬dKd n<3):rr n s=((decide (1<=(s.length:Int))&& decide ((s.length:Int)<=dSz n))&& gS (dKd n) s):=by
 unfold rr
 by_cases hl:1<=(s.length:Int)∧(s.length:Int)<=dSz n
 · rw [if_pos ⟨h,fun e=>by rw [e] at hl;simp at hl,hl.2,fun hc=>absurd hc hk⟩];simp [hl]
 · rw [if_neg (fun e=>hl ⟨by have:=List.length_pos_iff.2 e.2.1;omega,e.2.2.1⟩)]
   by_cases h1:1<=(s.length:Int)
   · have h2: ¬(s.length:Int)<=dSz n:=fun e=>hl ⟨h1,e⟩
     simp [h2]
   · simp [h1]
theorem RT(h:dOk n=false):rr n s=false:=by
 unfold rr
 rw [h,if_neg (fun e=>by cases e.1)]
theorem SB(h:dOk n=true)(hk:dKd n=1)(hl:(s.length:Int)=dSz n):isD s=rr n s:=by
 rw [yG h (by omega),GA (.inl hk),Gz (GC (Ec h).2.2.1 hl)];simp [hl]
theorem SC(h:dOk n=true)(hk:dKd n=2)(hl:(s.length:Int)=dSz n):isT s=rr n s:=by
 unfold isT
 rw [yG h (by omega),GB (by omega)];simp [hl]
theorem SD(h:dOk n=true)(hk:dKd n<3)(hl: ¬(s.length:Int)=dSz n):rr n s=false:=by
 rw [yG h hk];simp [hl]
theorem SE(h:dOk n=true)(hk:dKd n=3)(hl:1<=(s.length:Int)∧(s.length:Int)<=dSz n):isD s=rr n s:=by
 rw [uY h (by omega),GA (.inr hk),Gz (fun e=>by rw [e] at hl;simp at hl)];simp [hl]
theorem SF(h:dOk n=true)(hk:3<dKd n)(hl:1<=(s.length:Int)∧(s.length:Int)<=dSz n):isT s=rr n s:=by
 unfold isT
 rw [uY h (by omega),GB (by omega)];simp [hl]
theorem SG(h:dOk n=true)(hk:3<=dKd n)(hl:1<=(s.length:Int)->dSz n<(s.length:Int)):rr n s=false:=by
 rw [uY h (by omega)]
 by_cases h1:1<=(s.length:Int)
 · have:=hl h1
   have h2: ¬(s.length:Int)<=dSz n:=by omega
   simp [h2]
 · simp [h1]
attribute [local irreducible] vc
theorem Ba(n:Int)(L:List UInt8)(hL:L.length<=1000000):GFn 168 (fun A=> [.int .i64 n, .str L]) (fun A=> .bool (A.tb fun _=>rr n L)):=by
 refine aC Gy RS RR Tryz.func168 (.one) fun A hA=> ?_
 cbv
 repeat' (first| (with_reducible first|exact vT|exact vD hA|exact vE hA|refine vA ?_ ?_) | (intro hc;cbv))
 all_goals (subst hA;simp [sS] at*)
 all_goals first
  |assumption
  |omega
  |exact RT (by assumption)
  | (exfalso;simp_all;done)
  | (have h:dOk n=true:=by assumption
     have hb:=Ec h
     first
      |exact SD h (by omega) (by assumption)
      |exact SG h (by omega) (by assumption)
      | (rw [<-SB h (by omega) (by assumption)];simp [*];done)
      | (rw [<-SC h (by omega) (by assumption)];simp [*];done)
      | (rw [<-SE h (by omega) (by assumption)];simp [*];done)
      | (rw [<-SF h (by omega) (by assumption)];simp [*];done))
end Go.Vd
