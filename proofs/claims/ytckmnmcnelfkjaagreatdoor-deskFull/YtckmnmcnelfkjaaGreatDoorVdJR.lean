/- Proved: for every input paydesklaw16.DeskFull returns true, without a panic, and its input reads behind the call as it read before. No condition. -/
import Derived.Test.YtckmnmcnelfkjaaGreatDoorRows
import Derived.Test.YtckmnmcnelfkjaaGreatDoorCards
import Derived.Test.YtckmnmcnelfkjaaGreatDoorTie
import Derived.Test.YtckmnmcnelfkjaaGreatDoorVdWj
set_option linter.unusedVariables false
set_option maxRecDepth 100000
namespace Go.Proofs.YtckmnmcnelfkjaaGreatDoor
open Go.ChangeShapes Go.WideShapes Go.ChangeAt Go.ChangeMaps Go.RowKit Go.Joins
theorem Tryz.cellsD:Tryz.prog.cellsOf 37=6:=by kernel_rfl
set_option maxRecDepth 100000 in
theorem deskFull_lifted(os:Os)(started:os.Started)(H:Type)(enc:TypeId×Value->H):
 ReturnsInHanded {} Tryz.checked os 5 .any (fun w args=>(Rows.deskFullSpec.pre enc Tryz.prog Tryz.f5 [] false w args∧laidMetH Tryz.prog uj w)∧sizedMet enc Tryz.prog Tryz.f5 (OpenSpec.ofChange Rows.deskFullSpec) false w args)
  (Rows.deskFullSpec.post enc Tryz.prog Tryz.f5 false true false false):=by
 refine returnsInHanded_of_change_and (C:=Tryz.checked) (X:=fun w _=>laidMetH Tryz.prog uj w) (fun _ _ _ hh h=>h.of_heap hh) Tryz.own started (by kernel_rfl) Tryz.func5
  (ChangeSpec.witness_shaped (enc:=enc) (C:=Tryz.checked) (os:=os) (X:=fun w _=>laidMetH Tryz.prog uj w) false (World.doorLaid Tryz.prog 2000 os) #[.agg ((#[.int .u64 0, .int .i64 0, .int .i64 0, .int .i64 0, .int .i64 0, .int .i64 0, .slice none 0 0, .int .u64 0, .int .i64 0] ++Array.replicate 128 (.slice none 0 0))++ #[.slice none 0 0]), .agg #[.int .i64 0, .string ⟨#[]⟩, .int .u64 0, .int .u32 0, .string ⟨#[]⟩, .string ⟨#[]⟩], .bool false] 8 rfl (World.shaped_of_RefB (by kernel_rfl) (by kernel_rfl)) (by kernel_rfl) (by kernel_rfl) (by kernel_rfl) (KV os _)) ?_
 intro W base args ds gs before hval0 hW _ _ hL _
 have hval: ∀(j:Nat) t v,Tryz.f5.params[j]? =some t->args[j]? =some v->Value.okWide Tryz.prog W .any base t v:=hval0
 have hW':=hW
 obtain ⟨p,q,hA0,hV,rfl,hfz,hnd⟩:=hW
 have hA:DataW.TrodAll enc Tryz.prog W 0 (fun _=>true) true Tryz.f5.params.toList args.toList ds p:=hA0
 rw [Tryz.params5] at hA hval
 obtain ⟨v0,v1,v2,d0,d1,d2,p0,p1,p2,rfl,rfl,rfl,h0,h1,h2⟩:=trodAll_three hA
 obtain ⟨rfl,rfl⟩:=trodVars_none hV
 obtain ⟨zw0,zt0,zm0,zn0,zq0,ztm0,zT0,znw0,zwm0,zI0,zO0,zR0,hD0,hr0⟩:=Vd.KX (ρ:=fun _=>undef) (N:=fun _=>False) (hval 0 34 v0 rfl rfl) h0
 obtain ⟨c0,c1,c2,c3,c4,c5,y0,y1,y2,y3,y4,y5,m,rfl,rfl,rfl,hy0,hy1,hy2,hy3,hy4,hy5⟩:=Vd.Id Tryz.underlying37 (by kernel_rfl) Tryz.cellsD (hval 1 37 v1 rfl rfl) h1
 obtain ⟨da1,e0,rfl,wa1⟩:=DataW.trod_int Tryz.underlying3 hy0
 obtain ⟨dp1,e1,rfl,wp1⟩:=DataW.trod_string Tryz.underlying9 hy1
 obtain ⟨dc1,e2,rfl,wc1⟩:=DataW.trod_int Tryz.underlying22 hy2
 obtain ⟨ds1,e3,rfl,ws1⟩:=DataW.trod_int Tryz.underlying35 hy3
 obtain ⟨dr1,e4,rfl,wr1⟩:=DataW.trod_string Tryz.underlying9 hy4
 obtain ⟨de1,e5,rfl,we1⟩:=DataW.trod_string Tryz.underlying9 hy5
 simp at e0 e1 e2 e3 e4 e5
 subst e0 e1 e2 e3 e4 e5
 obtain ⟨b2,rfl,rfl,rfl⟩:=open_bool Tryz.underlying4 (hval 2 4 v2 rfl rfl) h2
 clear hA0 hval0
 refine (Vd.good_bool (Vd.wS zw0 zt0 zm0 zn0 zq0 ztm0 zT0 znw0 zwm0 zI0 zO0 zR0 da1 dc1 ds1 dp1.data.toList dr1.data.toList de1.data.toList b2 hD0.1.1 (fun i=>(hD0.1.2 i).1) (fun i j=>(hD0.1.2 i).2 j) hD0.2.1.1 hD0.2.1.2 hD0.2.2.1 hD0.2.2.2.1 hD0.2.2.2.2.1 (Vd.Ie ws1)) (w:=W) (vs:= [v0, .agg #[.int .i64 da1, .string dp1, .int .u64 dc1, .int .u32 ds1, .string dr1, .string de1], .bool b2]) (Vd.Ry (Ff hL)) ⟨hr0,Vd.KT rfl rfl rfl rfl rfl rfl (.int _ _) (.str _) (.int _ _) (.int _ _) (.str _) (.str _), .bool _,trivial⟩).mono fun e W' he=> ?_
 obtain ⟨rfl,hb⟩:=he
 refine ⟨_,rfl,Vd.D5 Tryz.laidOut ?_ rfl hW' (fun _ _ _=>trodAll_mk1 (shut_bool Tryz.underlying4 _)) rfl rfl hb.below⟩
 rw [Tryz.params5]
 intro t ht
 simp at ht
 rcases ht with rfl|rfl|rfl<;>exact ⟨by kernel_rfl,of_decide_eq_true (by kernel_rfl)⟩
theorem deskFull_said:Rows.DeskFullSaid:=
 OpenClaim.holds_of_wide 5 Tryz.f5 rfl rfl rfl rfl rfl rfl rfl ⟨rfl,rfl,rfl,rfl,rfl⟩ rfl rfl rfl rfl rfl (by kernel_rfl) Tryz.func5 (by kernel_rfl)
  (of_decide_eq_true (by kernel_rfl)) (by unfold Func.isWrapper;first| (rw [if_pos (by decide+kernel)];kernel_rfl) | (rw [if_neg (by decide+kernel)];exact ⟨rfl,rfl⟩))
  (fun os started H enc _=>deskFull_lifted os started H enc)
theorem deskFull_holds:Rows.DeskFullCardSaid:=
 Claim7.holds_tied_plain_at .later [] [.data, .data] true (true, "405cfbda695adfe15a341fdc657cb394d42882f7ce333e5b6b2bd7815472d084") false
  deskFull_said (fun _ h=>by cases h) (by kernel_rfl) (fun _ h=>by cases h) deskFull_row_tie rfl ⟨rfl,rfl⟩ (by kernel_rfl) rfl
  (fun f fn hf hfn=>by
    obtain rfl:f=5:=Option.some.inj ((show Tryz.prog.funcNamed "paydesk/paydesklaw16.DeskFull" =some 5 by kernel_rfl).symm.trans hf) |>.symm
    obtain rfl:fn=Tryz.f5:=(Option.some.inj (Tryz.func5.symm.trans hfn)).symm
    exact ⟨by kernel_rfl,fun j t ht=>by
     rw [Tryz.params5] at ht
     rcases j with _|_|_|j
     · obtain rfl:34=t:=by simpa using ht
       exact (show Tryz.prog.wantsStandIn 34=false by kernel_rfl)
     · obtain rfl:37=t:=by simpa using ht
       exact (show Tryz.prog.wantsStandIn 37=false by kernel_rfl)
     · obtain rfl:4=t:=by simpa using ht
       exact (show Tryz.prog.wantsStandIn 4=false by kernel_rfl)
     · simp at ht⟩)
  (by kernel_rfl)
end Go.Proofs.YtckmnmcnelfkjaaGreatDoor
