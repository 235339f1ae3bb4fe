/- A row's ends: what a slice that came in is to the generator; the last step where the call made memory and turned none. -/
import Derived.Test.YtckmnmcnelfkjaaGreatDoorVdLib
import Derived.ProofKit
import Derived.Below
import Derived.Carry
import Derived.ChangeSame
import Derived.ChangeSlices
import Derived.OpenShut
import Derived.Lib.SmallJoins
set_option linter.unusedVariables false
set_option linter.unusedSimpArgs false
namespace Go.Vd
open Go.Proofs Go.ChangeShapes Go.WideShapes Go.ChangeAt Go.RowKit Go.Joins
section
variable {H:Type} {enc:TypeId×Value->H} {P:Program}
theorem oa(hl:laidOutB P=true){W W':World}(hb:Below W.heap.size W W'):
 ∀ {ts:List TypeId} {vs:List Value} {ds:List (DataW H)} {ps:List MemPlace},(∀ t∈ts,P.readableRec t=true∧t<P.types.size)->DataW.TrodAll enc P W 0 (fun _=>true) true ts vs ds ps->(∀ x∈ps,x.block<W.heap.size)->
   DataW.TrodAll enc P W' 0 (fun b=>decide (b<W.heap.size)) true ts vs ds ps
 | [], [], [],_,_,h,_=>h
 |t::ts,v::vs,d::ds,_,ht,⟨p,q,hp,hq,e⟩,hlt=>by
  subst e
  exact ⟨p,q,Below.trod hl (ht t (by simp)).1 (ht t (by simp)).2 hp hb (fun x hx=>hlt x (by simp [hx])),
   oa hl hb (fun t h=>ht t (by simp [h])) hq (fun x hx=>hlt x (by simp [hx])),rfl⟩
 | [],_::_,_,_,_,h,_=>by simp [DataW.TrodAll] at h
 | [], [],_::_,_,_,h,_=>by simp [DataW.TrodAll] at h
 |_::_, [],_,_,_,h,_=>by simp [DataW.TrodAll] at h
 |_::_,_::_, [],_,_,h,_=>by simp [DataW.TrodAll] at h
theorem D5{f:Func}{s:ChangeSpec}{apart fresh handsOn:Bool}{W W':World}{args:Array Value}{v:Value}{ds gs:List (DataW H)}{ps:List MemPlace}
 (hl:laidOutB P=true) (ht: ∀ t∈f.params.toList,P.readableRec t=true∧t<P.types.size) (hv:s.vars= [])
 (hW:DataW.Whole enc P f.params.toList s.vars apart W args.toList ds gs ps)
 (hres: ∀(b:Nat) (sp:Nat->Bool) (hd:Bool),DataW.TrodAll enc P W' b sp hd f.resultTypes.toList (v.resultList f.resultTypes.size) (s.fn H (ds++gs)).results [])
 (ha:(s.fn H (ds++gs)).args=ds) (hg:(s.fn H (ds++gs)).vars= [])
 (hb:Below W.heap.size W W'):
 s.post enc P f apart fresh handsOn false W args v W':=by
 have hlt:=hW.lt
 have hW0:=hW
 obtain ⟨p,q,hA,hV,rfl,hfz,hnd⟩:=hW0
 refine ⟨ds,gs,p++q, [],p, [],hW,hres _ _ _, ?_, ?_,hb.frame _,fun h=>by cases h⟩
 · rw [ha]
   exact oa hl hb ht hA (fun x hx=>hlt x (by simp [hx]))
 · rw [hv,hg]
   rfl
end
end Go.Vd
