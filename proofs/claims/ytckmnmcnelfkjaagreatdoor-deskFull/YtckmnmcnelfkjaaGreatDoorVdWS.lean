/- Wheels: cancel. -/
import Derived.Test.YtckmnmcnelfkjaaGreatDoorVdWN
set_option linter.unusedVariables false
set_option linter.unusedSimpArgs false
set_option maxRecDepth 100000
set_option maxHeartbeats 8000000
namespace Go.Vd
open Go.Proofs
variable {r:List UInt8} {n m s:Int} {I O:Sl} {z:Nat} {B:Sl}
def otT (s:Int)(r:List UInt8)(t:Tm):Bool:= !decide (t.s=s∧t.r=r)
noncomputable def gG (n m:Int)(I O:Sl)(s:Int)(r:List UInt8):Int:=if wR n m I O=true then (if hkT (aR I O) s r=true then 0 else 5) else 1
noncomputable def fB (n m:Int)(I O:Sl)(s:Int)(r:List UInt8):Sl:=if gG n m I O s r=0∧fdT (aR I O) s r / 64=n / 64 then I.set (fdT (aR I O) s r % 64).toNat ((sl I (fdT (aR I O) s r % 64).toNat).filter (otT s r)) else I
noncomputable def fC (n m:Int)(I O:Sl)(s:Int)(r:List UInt8):Sl:=if gG n m I O s r=0∧ ¬fdT (aR I O) s r / 64=n / 64 then O.set (fdT (aR I O) s r / 64 % 64).toNat ((sl O (fdT (aR I O) s r / 64 % 64).toNat).filter (otT s r)) else O
theorem po(h: ¬gG n m I O s r=0):fB n m I O s r=I∧fC n m I O s r=O:=by
 unfold fB fC
 rw [if_neg (fun e=>h e.1),if_neg (fun e=>h e.1)]
 exact ⟨rfl,rfl⟩
theorem EQ(h:wR n m I O=false):gG n m I O s r=1:=by unfold gG;rw [h];rfl
theorem xb(h:wR n m I O=true)(h1:hkT (aR I O) s r=false):gG n m I O s r=5:=by unfold gG;rw [if_pos h,h1];rfl
theorem L8(h:wR n m I O=true)(h1:hkT (aR I O) s r=true):gG n m I O s r=0:=by unfold gG;rw [if_pos h,if_pos h1]
theorem HI{n m s u:Int}{I O:Sl}{r:List UInt8}(h:gG n m I O s r=0)(hu:u=fdT (aR I O) s r)(h2:u / 64=n / 64):fB n m I O s r=I.set (u % 64).toNat ((sl I (u % 64).toNat).filter (otT s r))∧fC n m I O s r=O:=by
 subst hu
 unfold fB fC
 rw [if_pos ⟨h,h2⟩,if_neg (fun e=>e.2 h2)]
 exact ⟨rfl,rfl⟩
theorem C6{n m s u:Int}{I O:Sl}{r:List UInt8}(h:gG n m I O s r=0)(hu:u=fdT (aR I O) s r)(h2: ¬u / 64=n / 64):fB n m I O s r=I∧fC n m I O s r=O.set (u / 64 % 64).toNat ((sl O (u / 64 % 64).toNat).filter (otT s r)):=by
 subst hu
 unfold fB fC
 rw [if_neg (fun e=>h2 e.2),if_pos ⟨h,h2⟩]
 exact ⟨rfl,rfl⟩
theorem uc{s:Int} : ∀ {L:List Tm},hkT L s r=true-> ∃ t∈L,t.s=s∧t.r=r∧t.u=fdT L s r
 | [],h=>by cases h
 |t::L,h=>by
  by_cases e:t.s=s∧t.r=r
  · exact ⟨t,List.mem_cons_self ..,e.1,e.2,by unfold fdT;rw [if_pos e]⟩
  · unfold hkT at h
    rw [List.any_cons,decide_eq_false e,Bool.false_or] at h
    obtain ⟨t',h1,h2⟩:=uc (L:=L) h
    exact ⟨t',List.mem_cons_of_mem _ h1,by unfold fdT;rw [if_neg e];exact h2⟩
theorem qX{p:Tm->Bool}{L:List Tm}{k:Nat}(h:k<L.length):(L.take (k+1)).filter p=if p (L.getD k T0)=true then (L.take k).filter p++ [L.getD k T0] else (L.take k).filter p:=by
 rw [<-bk (d:=T0) h,List.filter_append]
 split
 · rename_i hp;rw [List.filter_cons_of_pos hp];rfl
 · rename_i hp;rw [List.filter_cons_of_neg hp];simp
theorem nP{L:List Tm}(h:dq L){k:Nat}(hk:k<L.length): ∀ y∈L.take k,ltT y (L.getD k T0):=fun y hy=>by
 obtain ⟨i,hi,rfl⟩:=List.getElem_of_mem hy
 rw [List.length_take] at hi
 have:=HE h (show i<k by omega) hk
 rw [List.getD_eq_getElem?_getD,gEE (show i<L.length by omega)] at this
 rw [List.getElem_take]
 exact this
theorem pq{B B':Sl}(hz:z<64)(hl:B.length=64)(h:B'=B.set z []):ba 64 1 (fun x _=>SV.slc (if x=z then 0 else (B.getD x []).length) 3 (ax eT T0 std fun _=>B.getD x [])) (fun x _=>SV.slc ((B'.getD x []).length) 3 (ax eT T0 std fun _=>B'.getD x [])):=fun x j hx hj=>by
 have e:B'.getD x [] =if x=z then [] else B.getD x [] :=by rw [h];exact gO hl hz _ x
 by_cases hxs:x=z
 · simp only [if_pos hxs] at e ⊢
   rw [e]
   exact .slc _ _ _ _ fun i j hi=>absurd hi (by simp)
 · simp only [if_neg hxs] at e ⊢
   rw [e]
   exact .refl _
theorem vm{f:Nat->Nat->SV}(h:ba 64 1 f (ax eTs [] std fun _=>B)):ba 64 1 f (fun x _=>SV.slc ((B.getD x []).length) 3 (ax eT T0 std fun _=>B.getD x [])):=fun i j hi hj=>by
 obtain rfl:j=0:=by omega
 exact h i 0 hi hj
theorem set_set{L M:List Tm} :(B.set z L).set z M=B.set z M:=List.set_set ..
theorem zZ(hl:B.length=64)(hz:z<64)(L:List Tm):(B.set z L).getD z [] =L:=by
 have:=gO hl hz L z
 rw [if_pos rfl] at this
 exact this
attribute [local irreducible] vc
theorem Aa(n m s:Int)(I O:Sl)(r:List UInt8)(hQ:whQ I O)(hn:0<=n∧n<18446744073709551616):GFn 95 (fun A=> [whS A n m I O,gY A s r]) (fun A=> .tup [whT A n m (fun _=>fB n m I O s r) (fun _=>fC n m I O s r), .int .i64 (A.ti fun _=>gG n m I O s r)]):=by
 refine aC zY ub zX Tryz.func95 (.none) fun A hA=> ?_
 cbv
 repeat' (first| (with_reducible first|exact vT|exact vD hA|exact vE hA|refine vA ?_ ?_) | (intro hc;cbv))
 refine ⟨qe A n m I O 4 4,⟨some ⟨0,by omega⟩, ?_⟩, ?_⟩
 · cbv
   subst hA
   simp [-List.getD_eq_getElem?_getD,sS,bm]
 · rintro (_| ⟨i,hi⟩)
   rotate_left 1
   · have h1:=fA hQ hi
     obtain ⟨i',hi'⟩: ∃ i',i'=i+1:=⟨_,rfl⟩
     cbv
     repeat' (first| (with_reducible first|exact vT|exact vD hA|exact vE hA|refine vA ?_ ?_) | (intro hc;cbv))
     all_goals first
      | (exfalso;subst hA;have hq:std.lt (Int.ofNat i) 64=false:=by assumption
         have: ¬((i:Nat):Int)<64:=of_decide_eq_false hq
         omega)
      | (fail_if_success (refine Exists.intro ?_ ?_)
         subst hA
         simp only [sS,iNE,fd,cd] at*
         first
          |done
          |exact ⟨by omega,by omega⟩
          |exact ⟨trivial,by unfold sl at h1;omega⟩
          |omega
          | (constructor<;>omega))
      |skip
     by_cases h:i'<64
     · refine ⟨some ⟨i',h⟩, ?_,show 64 - i'<64 - i by omega⟩
       cbv
       subst hA
       simp [-List.getD_eq_getElem?_getD,sS,bm,cd,jM]
       exact ⟨ce hi' (by omega),hi'.symm⟩
     · refine ⟨none, ?_,show 0<64 - i by omega⟩
       cbv
       subst hA
       simp [-List.getD_eq_getElem?_getD,sS,bm,cd,jM]
       exact ⟨by rw [w64 (by omega)];omega,by omega⟩
   · have rI:=qj hQ.1.1
     have rO:=qj hQ.1.2
     have lI:=mG hQ.1.1
     have lO:=mG hQ.1.2
     have hQ1:=hQ.2.1
     obtain ⟨u,hu⟩: ∃ u,u=fdT (aR I O) s r:=⟨_,rfl⟩
     have hfind:wR n m I O=true->hkT (aR I O) s r=true->(0<=u∧u<18446744073709551616)∧n<u:=fun hR hH=>by
      obtain ⟨t,h1,_,_,h4⟩:=uc hH
      rw [<-hu] at h4
      have h5:=hQ.2.2 t h1
      obtain ⟨i,hi,h6⟩:=fJ.1 h1
      have hw:=(dC.1 hR).2.1 i hi
      unfold tmQ at h5
      rcases h6 with h6|h6
      · have:=tZ.1 (hw.1.1 t h6);omega
      · have:=t6.1 (hw.2.1 t h6);omega
     cbv
     repeat' (first| (with_reducible first|exact vT|exact vD hA|exact vE hA|refine vA ?_ ?_) | (intro hc;cbv))
     all_goals (try (exfalso;subst hA;simp only [sS] at hc;exact absurd hc (by decide)))
     all_goals first
      | (fail_if_success (refine Exists.intro ?_ ?_)
         subst hA
         simp only [sS,ay hQ.1.1,ay hQ.1.2,ah hQ.1.1,ah hQ.1.2,rI,rO,lI,lO,ej,qi,<-hu] at*
         first
          |done
          |exact ⟨⟨⟨trivial,trivial⟩,hQ⟩,hn.1⟩
          |exact ⟨⟨trivial,trivial⟩,hQ⟩
          | (have hR:(!wR n m I O)=true:=by assumption
             have h1:=EQ (s:=s) (r:=r) (nI hR)
             have h2:=po (by rw [h1];decide)
             first
              | (rw [h1];done)
              | (rw [h2.1];exact bS _)
              | (rw [h2.2];exact bS _))
          | (have hR:(!wR n m I O)=false:=by assumption
             have hR:=eH hR
             have hH:(!hkT (aR I O) s r)=true:=by assumption
             have h1:=xb hR (nI hH)
             have h2:=po (by rw [h1];decide)
             first
              | (rw [h1];done)
              | (rw [h2.1];exact bS _)
              | (rw [h2.2];exact bS _))
          | (have hR:(!wR n m I O)=false:=by assumption
             have hH:(!hkT (aR I O) s r)=false:=by assumption
             have h3:=hfind (eH hR) (eH hH)
             first
              |exact ⟨hn.1,by omega,by omega⟩
              |exact ⟨by omega,by omega⟩)
)
      |skip
     all_goals (have hR:wR n m I O=true:=by
                 subst hA
                 have hR:std.not (std.tb fun _=>wR n m (ab eTs [] 1 64 (ax eTs [] std fun _=>I)) (ab eTs [] 1 64 (ax eTs [] std fun _=>O)))=false:=by assumption
                 simp only [sS,ah hQ.1.1,ah hQ.1.2] at hR
                 exact eH hR)
     all_goals (have hW:=dC.1 hR)
     all_goals (have hH:hkT (aR I O) s r=true:=by
                 subst hA
                 clear hW hfind
                 simp only [sS,lI,lO] at*
                 exact eH (by assumption))
     · have hst:=True.intro
       obtain ⟨z,hz⟩: ∃ z,z=(u % 64).toNat:=⟨_,rfl⟩
       have hz64:z<64:=by omega
       obtain ⟨L,hL⟩: ∃ L,L=sl I z:=⟨_,rfl⟩
       have hLl:L.length<=100000:=by have:=fA hQ hz64;rw [hL];omega
       have hsk:d7 true n z L:=by rw [hL];exact (hW.2.1 z hz64).1
       have hLu: ∀ t∈L,tmQ t∧fz true t.u=(z:Int):=fun t ht=>⟨hQ.2.2 t (fJ.2 ⟨z,hz64, .inl (hL▸ht)⟩),by have:=tZ.1 (hsk.1 t ht);show t.u % 64=(z:Int);omega⟩
       have hgL:I.getD (u % 64).toNat [] =L:=by rw [hL,hz];rfl
       have hgz:I.getD z [] =L:=hL.symm
       obtain ⟨B0,hB0⟩: ∃ B0,B0=I.set z [] :=⟨_,rfl⟩
       have hkn:=pq hz64 hQ.1.1 hB0
       refine ⟨⟨{p:Nat×Sl // p.1<=L.length∧p.2=I.set z ((L.take p.1).filter (otT s r))},fun b p=> [(12, .any),(13, .any),(14, .any),(15, .any),(16, .any),(17, .any),(18, .any),(19, .any),(20, .any),(21, .any),(22, .any),(23, .any),(24, .any),(25, .any),(26, .any),(27, .any),(28, .any),(29, .any),(30, .any),(31, .any),(7, .int .u64 u),(8, .any),(32,aF eT T0 3 A fun _=>L),(33, .int .i64 (A.ofNat (A.tn fun _=>L.length))),(34, .int .i64 (p.1.1:Nat))],fun b p=> [(7,kdW A b 64 p.1.2),(0, .box 31 [.int .u64 n, .int .i64 m, .krun 7 b 64, .krun 9 10 64])],fun p=>L.length - p.1.1,true⟩,⟨⟨(0,B0),Nat.zero_le _,hB0⟩, ?_⟩, ?_⟩
       · cbv
         subst hA
         simp [-List.getD_eq_getElem?_getD,sS,bm,rI,rO,lI,lO,<-hu,ej,qi,hgL,<-hz,hgz]
         exact hkn
       · rintro ⟨⟨k,B'⟩,hx⟩
         have hk:k<=L.length:=hx.1
         have hB':B'=I.set z ((L.take k).filter (otT s r)):=hx.2
         obtain ⟨P,hP⟩: ∃ P,P=(L.take k).filter (otT s r):=⟨_,rfl⟩
         rw [<-hP] at hB'
         have hBl:B'.length=64:=by rw [hB',List.length_set];exact hQ.1.1
         have hBz:B'.getD z [] =P:=by rw [hB'];exact zZ hQ.1.1 hz64 P
         have hPl:P.length<=100000:=by rw [hP];refine Nat.le_trans (List.length_filter_le _ _) ?_;rw [List.length_take];omega
         rcases Nat.lt_or_ge k L.length with hlt|hge
         · obtain ⟨k',hk'⟩: ∃ k',k'=k+1:=⟨_,rfl⟩
           obtain ⟨t,ht⟩: ∃ t,t=L.getD k T0:=⟨_,rfl⟩
           have hgt:L.getD k { s:=0,r:= [],u:=0 } =t:=ht.symm
           obtain ⟨htQ,htz⟩:=hLu t (ht▸iS hlt)
           have hPa:dq P:=by rw [hP];exact (hsk.2.sublist (List.take_sublist _ _)).sublist List.filter_sublist
           have hbef: ∀ y∈P,ltT y t:=fun y hy=>by rw [ht];exact nP hsk.2 hlt y (List.mem_filter.1 (hP▸hy)).1
           have hfs:=qX (p:=otT s r) hlt
           rw [<-hk',<-hP,<-ht] at hfs
           have hne: ∀ y∈sl B' z,¬y=t:=fun y hy e=>by
            have:y∈P:=by rw [<-hBz];exact hy
            have:=hbef y this
            rw [e] at this
            exact ik _ this
           have hpp:=im P t
           have hil:=lD hbef
           obtain ⟨B2,hB2⟩: ∃ B2,B2=B'.set z (bP P t):=⟨_,rfl⟩
           have hB2':otT s r t=true->B2=I.set z ((L.take k').filter (otT s r)):=fun h=>by
            rw [hfs,if_pos h,hB2,hB',set_set,hil]
           have hBn:otT s r t=false->B'=I.set z ((L.take k').filter (otT s r)):=fun h=>by
            rw [hfs,h,hB'];rfl
           have hkp:=pn (s:=t.s) (u:=t.u) (r:=t.r) hz64 hBl hne
           have hsb:sl B' z=P:=hBz
           rw [hsb,hBz] at hkp
           have htn:(fz true t.u).toNat=z:=by rw [htz];rfl
           cbv
           repeat' (first| (with_reducible first|exact vT|exact vD hA|exact vE hA|refine vA ?_ ?_) | (intro hc;cbv))
           all_goals first
            | (exfalso
               subst hA
               have hq:std.lt (Int.ofNat k) (std.ofNat (std.tn fun _=>L.length))=false:=by assumption
               simp only [sS,Int.ofNat_eq_natCast] at hq
               have:=of_decide_eq_false hq
               omega)
            | (fail_if_success (refine Exists.intro ?_ ?_)
               subst hA
               clear hB2' hBn
               simp only [sS,iNE,hgt,htz,hBz,fd,cd,gB] at*
               first
                |done
                |exact htQ
                |exact ⟨by omega,by omega⟩
                |exact ⟨(show (0:Int)<=((z:Nat):Int) by omega),(show ((z:Nat):Int)<((64:Nat):Int) by omega)⟩
                |exact ⟨⟨trivial,by omega⟩,hPa⟩
                |exact ⟨⟨Int.natCast_nonneg _,Int.ofNat_le.2 hpp⟩,by omega⟩
)
            |skip
           · have hot:otT s r t=true:=by
              subst hA
              clear hB2' hBn
              simp only [sS,iNE,hgt] at hc
              unfold otT
              simpa using hc
             refine ⟨⟨(k',B2),by show k'<=L.length;omega,hB2' hot⟩, ?_,show L.length - k'<L.length - k by omega⟩
             cbv
             subst hA
             simp [-List.getD_eq_getElem?_getD,sS,hgt,htz,hBz,cd,gB,bm]
             refine ⟨ce hk' (by omega), ?_⟩
             rw [hB2]
             exact vm hkp
           · have hot:otT s r t=false:=by
              subst hA
              clear hB2' hBn
              simp only [sS,iNE,hgt] at hc
              unfold otT
              simpa using hc
             refine ⟨⟨(k',B'),by show k'<=L.length;omega,hBn hot⟩, ?_,show L.length - k'<L.length - k by omega⟩
             cbv
             subst hA
             simp [-List.getD_eq_getElem?_getD,sS,bm]
             exact ce hk' (by omega)
         · have hke:k=L.length:=by omega
           rw [hke,List.take_length] at hP
           have h0:=L8 hR hH
           have hf:=hfind hR hH
           have hci:= @HI n m s u I O r h0 hu
           cbv
           repeat' (first| (with_reducible first|exact vT|exact vD hA|exact vE hA|refine vA ?_ ?_) | (intro hc;cbv))
           all_goals first
            | (exfalso
               subst hA
               have hq:std.lt (Int.ofNat k) (std.ofNat (std.tn fun _=>L.length))=true:=by assumption
               simp only [sS,Int.ofNat_eq_natCast] at hq
               have:=of_decide_eq_true hq
               omega)
            | (subst hA
               simp only [sS]
               done)
            |skip
           all_goals
            subst hA
            clear hfind hW
            simp only [sS,<-hu,lI,lO] at*
            have hq2:u / 64=n / 64:=by
             have hq:(u / 64 - n / 64==0)=true:=by assumption
             simp at hq;omega
            have h2:=hci hq2
            first
             |done
             |exact h0.symm
             | (rw [h2.2];exact bS _)
             | (rw [h2.1,<-hz,<-hL,<-hP,<-hB'];exact bS _)
     · have hst:=True.intro
       obtain ⟨z,hz⟩: ∃ z,z=(u / 64 % 64).toNat:=⟨_,rfl⟩
       have hz64:z<64:=by omega
       obtain ⟨L,hL⟩: ∃ L,L=sl O z:=⟨_,rfl⟩
       have hLl:L.length<=100000:=by have:=fA hQ hz64;rw [hL];omega
       have hsk:d7 false n z L:=by rw [hL];exact (hW.2.1 z hz64).2
       have hLu: ∀ t∈L,tmQ t∧fz false t.u=(z:Int):=fun t ht=>⟨hQ.2.2 t (fJ.2 ⟨z,hz64, .inr (hL▸ht)⟩),by have:=t6.1 (hsk.1 t ht);show t.u / 64 % 64=(z:Int);omega⟩
       have hgL:O.getD (u / 64 % 64).toNat [] =L:=by rw [hL,hz];rfl
       have hgz:O.getD z [] =L:=hL.symm
       obtain ⟨B0,hB0⟩: ∃ B0,B0=O.set z [] :=⟨_,rfl⟩
       have hkn:=pq hz64 hQ.1.2 hB0
       refine ⟨⟨{p:Nat×Sl // p.1<=L.length∧p.2=O.set z ((L.take p.1).filter (otT s r))},fun b p=> [(12, .any),(13, .any),(14, .any),(15, .any),(16, .any),(17, .any),(18, .any),(19, .any),(20, .any),(21, .any),(22, .any),(23, .any),(24, .any),(25, .any),(26, .any),(27, .any),(28, .any),(29, .any),(30, .any),(31, .any),(7, .int .u64 u),(8, .any),(32,aF eT T0 3 A fun _=>L),(33, .int .i64 (A.ofNat (A.tn fun _=>L.length))),(34, .int .i64 (p.1.1:Nat))],fun b p=> [(9,kdW A b 64 p.1.2),(0, .box 31 [.int .u64 n, .int .i64 m, .krun 7 8 64, .krun 9 b 64])],fun p=>L.length - p.1.1,true⟩,⟨⟨(0,B0),Nat.zero_le _,hB0⟩, ?_⟩, ?_⟩
       · cbv
         subst hA
         simp [-List.getD_eq_getElem?_getD,sS,bm,rI,rO,lI,lO,<-hu,ej,qi,hgL,<-hz,hgz]
         exact hkn
       · rintro ⟨⟨k,B'⟩,hx⟩
         have hk:k<=L.length:=hx.1
         have hB':B'=O.set z ((L.take k).filter (otT s r)):=hx.2
         obtain ⟨P,hP⟩: ∃ P,P=(L.take k).filter (otT s r):=⟨_,rfl⟩
         rw [<-hP] at hB'
         have hBl:B'.length=64:=by rw [hB',List.length_set];exact hQ.1.2
         have hBz:B'.getD z [] =P:=by rw [hB'];exact zZ hQ.1.2 hz64 P
         have hPl:P.length<=100000:=by rw [hP];refine Nat.le_trans (List.length_filter_le _ _) ?_;rw [List.length_take];omega
         rcases Nat.lt_or_ge k L.length with hlt|hge
         · obtain ⟨k',hk'⟩: ∃ k',k'=k+1:=⟨_,rfl⟩
           obtain ⟨t,ht⟩: ∃ t,t=L.getD k T0:=⟨_,rfl⟩
           have hgt:L.getD k { s:=0,r:= [],u:=0 } =t:=ht.symm
           obtain ⟨htQ,htz⟩:=hLu t (ht▸iS hlt)
           have hPa:dq P:=by rw [hP];exact (hsk.2.sublist (List.take_sublist _ _)).sublist List.filter_sublist
           have hbef: ∀ y∈P,ltT y t:=fun y hy=>by rw [ht];exact nP hsk.2 hlt y (List.mem_filter.1 (hP▸hy)).1
           have hfs:=qX (p:=otT s r) hlt
           rw [<-hk',<-hP,<-ht] at hfs
           have hne: ∀ y∈sl B' z,¬y=t:=fun y hy e=>by
            have:y∈P:=by rw [<-hBz];exact hy
            have:=hbef y this
            rw [e] at this
            exact ik _ this
           have hpp:=im P t
           have hil:=lD hbef
           obtain ⟨B2,hB2⟩: ∃ B2,B2=B'.set z (bP P t):=⟨_,rfl⟩
           have hB2':otT s r t=true->B2=O.set z ((L.take k').filter (otT s r)):=fun h=>by
            rw [hfs,if_pos h,hB2,hB',set_set,hil]
           have hBn:otT s r t=false->B'=O.set z ((L.take k').filter (otT s r)):=fun h=>by
            rw [hfs,h,hB'];rfl
           have hkp:=pn (s:=t.s) (u:=t.u) (r:=t.r) hz64 hBl hne
           have hsb:sl B' z=P:=hBz
           rw [hsb,hBz] at hkp
           have htn:(fz false t.u).toNat=z:=by rw [htz];rfl
           cbv
           repeat' (first| (with_reducible first|exact vT|exact vD hA|exact vE hA|refine vA ?_ ?_) | (intro hc;cbv))
           all_goals first
            | (exfalso
               subst hA
               have hq:std.lt (Int.ofNat k) (std.ofNat (std.tn fun _=>L.length))=false:=by assumption
               simp only [sS,Int.ofNat_eq_natCast] at hq
               have:=of_decide_eq_false hq
               omega)
            | (fail_if_success (refine Exists.intro ?_ ?_)
               subst hA
               clear hB2' hBn
               simp only [sS,iNE,hgt,htz,hBz,fd,cd,gB] at*
               first
                |done
                |exact htQ
                |exact ⟨by omega,by omega⟩
                |exact ⟨(show (0:Int)<=((z:Nat):Int) by omega),(show ((z:Nat):Int)<((64:Nat):Int) by omega)⟩
                |exact ⟨⟨trivial,by omega⟩,hPa⟩
                |exact ⟨⟨Int.natCast_nonneg _,Int.ofNat_le.2 hpp⟩,by omega⟩
)
            |skip
           · have hot:otT s r t=true:=by
              subst hA
              clear hB2' hBn
              simp only [sS,iNE,hgt] at hc
              unfold otT
              simpa using hc
             refine ⟨⟨(k',B2),by show k'<=L.length;omega,hB2' hot⟩, ?_,show L.length - k'<L.length - k by omega⟩
             cbv
             subst hA
             simp [-List.getD_eq_getElem?_getD,sS,hgt,htz,hBz,cd,gB,bm]
             refine ⟨ce hk' (by omega), ?_⟩
             rw [hB2]
             exact vm hkp
           · have hot:otT s r t=false:=by
              subst hA
              clear hB2' hBn
              simp only [sS,iNE,hgt] at hc
              unfold otT
              simpa using hc
             refine ⟨⟨(k',B'),by show k'<=L.length;omega,hBn hot⟩, ?_,show L.length - k'<L.length - k by omega⟩
             cbv
             subst hA
             simp [-List.getD_eq_getElem?_getD,sS,bm]
             exact ce hk' (by omega)
         · have hke:k=L.length:=by omega
           rw [hke,List.take_length] at hP
           have h0:=L8 hR hH
           have hf:=hfind hR hH
           have hci:= @C6 n m s u I O r h0 hu
           cbv
           repeat' (first| (with_reducible first|exact vT|exact vD hA|exact vE hA|refine vA ?_ ?_) | (intro hc;cbv))
           all_goals first
            | (exfalso
               subst hA
               have hq:std.lt (Int.ofNat k) (std.ofNat (std.tn fun _=>L.length))=true:=by assumption
               simp only [sS,Int.ofNat_eq_natCast] at hq
               have:=of_decide_eq_true hq
               omega)
            | (subst hA
               simp only [sS]
               done)
            |skip
           all_goals
            subst hA
            clear hfind hW
            simp only [sS,<-hu,lI,lO] at*
            have hq2: ¬u / 64=n / 64:=by
             have hq:(u / 64 - n / 64==0)=false:=by assumption
             simp at hq;omega
            have h2:=hci hq2
            first
             |done
             |exact h0.symm
             | (rw [h2.1];exact bS _)
             | (rw [h2.2,<-hz,<-hL,<-hP,<-hB'];exact bS _)
end Go.Vd
set_option maxHeartbeats 4000000
namespace Go.Vd
open Go.Proofs
variable {L:List Tm} {I O:Sl} {n m k:Int} {z:Nat}
theorem Ow{n n':Int}(h:n / 64=n' / 64)(L:List Tm):bI n L=bI n' L∧bO n L=bO n' L:=by
 constructor
 · refine ck (bH _ _) (bH _ _) fun i hi=> ?_
   rw [cw hi,cw hi]
   congr 1
   funext t
   unfold inI
   rw [h]
 · refine ck (bZ _ _) (bZ _ _) fun i hi=> ?_
   rw [cH hi,cH hi]
   congr 1
   funext t
   unfold inO
   rw [h]
theorem L9(n n':Int):bI n [] =bI n' [] ∧bO n [] =bO n' [] :=by
 constructor
 · exact ck (bH _ _) (bH _ _) fun i hi=>by rw [zT,zT]
 · exact ck (bZ _ _) (bZ _ _) fun i hi=>by rw [HC,HC]
def laT (n:Int)(t:Tm):Bool:=decide (n<t.u)
def duT (n:Int)(t:Tm):Bool:=decide (t.u<=n)
theorem Ox{n n':Int}(h:n<=n')(L:List Tm):(L.filter (laT n)).filter (laT n')=L.filter (laT n'):=by
 rw [List.filter_filter]
 congr 1
 funext t
 unfold laT
 by_cases h1:n'<t.u
 · simp [h1,show n<t.u by omega]
 · simp [h1]
theorem QK{n n':Int}(h:g8 n L)(hn:n<=n'):g8 n' (L.filter (laT n')):=by
 refine ⟨h.1.sublist List.filter_sublist,h.2.1.sublist List.filter_sublist,fun t ht=> ?_⟩
 have h1:=List.mem_filter.1 ht
 have h2:=h.2.2 t h1.1
 have h3:n'<t.u:=of_decide_eq_true h1.2
 unfold l9 at*
 omega
theorem QL{n:Int}(h:g8 n L)(h0:(n+1) % 64=0):bI n L=bI (n+1) [] :=by
 refine ck (bH _ _) (bH _ _) fun i hi=> ?_
 rw [zT,cw hi]
 refine fI fun t ht=> ?_
 have:=h.2.2 t ht
 unfold l9 at this
 unfold inI
 rw [decide_eq_false_iff_not]
 omega
theorem QM{n:Int}(h:g8 n L)(h0:(n+1) % 64=0)(hz:(z:Int)=(n+1) / 64 % 64):bI (n+1) (sl (bO n L) z)=bI (n+1) L:=by
 refine ck (bH _ _) (bH _ _) fun i hi=> ?_
 rw [cw hi,cw hi,cH (by omega),List.filter_filter]
 refine List.filter_congr fun t ht=> ?_
 have:=h.2.2 t ht
 unfold l9 at this
 unfold inI inO
 rw [Bool.eq_iff_iff,bAE,decide_eq_true_eq,decide_eq_true_eq]
 omega
theorem QN{n:Int}(h:g8 n L)(h0:(n+1) % 64=0)(hz:(z:Int)=(n+1) / 64 % 64):(bO n L).set z [] =bO (n+1) L:=by
 refine ck (by rw [List.length_set];exact bZ _ _) (bZ _ _) fun i hi=> ?_
 rw [gO (bZ _ _) (by omega),cH hi,cH hi]
 split
 · rename_i e
   subst e
   refine (fI fun t ht=> ?_).symm
   have:=h.2.2 t ht
   unfold l9 at this
   unfold inO
   rw [decide_eq_false_iff_not]
   omega
 · rename_i e
   refine List.filter_congr fun t ht=> ?_
   have:=h.2.2 t ht
   unfold l9 at this
   unfold inO
   rw [decide_eq_decide]
   omega
def sd (n:Int)(L:List Tm):List Tm:=L.filter fun t=>decide (t.u=n)
theorem HJ{n:Int}(hz:(z:Int)=n % 64):sl (bI n L) z=sd n L:=by
 rw [cw (by omega)]
 unfold sd
 refine List.filter_congr fun t _=> ?_
 unfold inI
 rw [decide_eq_decide]
 omega
theorem R8{n:Int}(h: ∀ t∈L,n<=t.u)(hz:(z:Int)=n % 64):(bI n L).set z [] =bI n (L.filter (laT n))∧bO n L=bO n (L.filter (laT n)):=by
 constructor
 · refine ck (by rw [List.length_set];exact bH _ _) (bH _ _) fun i hi=> ?_
   rw [gO (bH _ _) (by omega),cw hi,cw hi,List.filter_filter]
   split
   · rename_i e
     subst e
     refine (fI fun t ht=> ?_).symm
     have:=h t ht
     unfold inI laT
     rw [Bool.and_eq_false_iff,decide_eq_false_iff_not,decide_eq_false_iff_not]
     omega
   · rename_i e
     refine List.filter_congr fun t ht=> ?_
     have:=h t ht
     unfold inI laT
     rw [Bool.eq_iff_iff,bAE,decide_eq_true_eq,decide_eq_true_eq]
     omega
 · refine ck (bZ _ _) (bZ _ _) fun i hi=> ?_
   rw [cH hi,cH hi,List.filter_filter]
   refine List.filter_congr fun t ht=> ?_
   have:=h t ht
   unfold inO laT
   rw [Bool.eq_iff_iff,bAE,decide_eq_true_eq,decide_eq_true_eq]
   omega
theorem Kz{n:Int}(h:dq L):L.filter (duT n)++sd (n+1) (L.filter (laT n))=L.filter (duT (n+1)):=by
 refine gh ?_ (h.sublist List.filter_sublist) fun x=> ?_
 · refine List.pairwise_append.2 ⟨h.sublist List.filter_sublist,(h.sublist List.filter_sublist).sublist List.filter_sublist,fun a ha b hb=> .inl ?_⟩
   have h1:a.u<=n:=of_decide_eq_true (List.mem_filter.1 ha).2
   have h2:b.u=n+1:=of_decide_eq_true (List.mem_filter.1 hb).2
   omega
 · unfold sd
   rw [List.mem_append,List.mem_filter,List.mem_filter,List.mem_filter,List.mem_filter]
   unfold duT laT
   simp only [decide_eq_true_eq]
   constructor
   · rintro (⟨h1,h2⟩ | ⟨⟨h1,h2⟩,h3⟩)
     · exact ⟨h1,by omega⟩
     · exact ⟨h1,by omega⟩
   · rintro ⟨h1,h2⟩
     rcases Int.lt_or_le n x.u with h3|h3
     · exact .inr ⟨⟨h1,h3⟩,by omega⟩
     · exact .inl ⟨h1,h3⟩
theorem ud(p:Tm->Bool): ∀ L:List Tm,(L.filter p).length+(L.filter fun t=> !p t).length=L.length
 | [] =>rfl
 |t::L=>by
  have:=ud p L
  cases hp:p t
  · rw [List.filter_cons_of_neg (by simp [hp]),List.filter_cons_of_pos (by simp [hp])];simp;omega
  · rw [List.filter_cons_of_pos hp,List.filter_cons_of_neg (by simp [hp])];simp;omega
theorem Oy{n:Int}(h: ∀ t∈L,n<=t.u):(sd n L).length+(L.filter (laT n)).length=L.length:=by
 rw [<-ud (fun t=>decide (t.u=n)) L]
 congr 2
 refine List.filter_congr fun t ht=> ?_
 have:=h t ht
 unfold laT
 rw [Bool.eq_iff_iff,Bool.not_eq_true',decide_eq_true_eq,decide_eq_false_iff_not]
 omega
noncomputable def dt (n m:Int)(I O:Sl)(k:Int):Int:=if wR n m I O=true then (if 18446744073709551615 - n<k then 10 else 0) else 1
noncomputable def nQ (n m:Int)(I O:Sl)(k:Int):Int:=if dt n m I O k=0 then n+k else n
noncomputable def nR (n m:Int)(I O:Sl)(k:Int):Sl:=if dt n m I O k=0 then bI (n+k) ((bL I O).filter (laT (n+k))) else I
noncomputable def nS (n m:Int)(I O:Sl)(k:Int):Sl:=if dt n m I O k=0 then bO (n+k) ((bL I O).filter (laT (n+k))) else O
noncomputable def lc (n m:Int)(I O:Sl)(k:Int):List Tm:=if dt n m I O k=0 then (bL I O).filter (duT (n+k)) else []
theorem Ab(h: ¬dt n m I O k=0):nQ n m I O k=n∧nR n m I O k=I∧nS n m I O k=O∧lc n m I O k= [] :=by
 unfold nQ nR nS lc
 rw [if_neg h,if_neg h,if_neg h,if_neg h]
 exact ⟨rfl,rfl,rfl,rfl⟩
theorem vn(h:dt n m I O k=0):nQ n m I O k=n+k∧nR n m I O k=bI (n+k) ((bL I O).filter (laT (n+k)))∧nS n m I O k=bO (n+k) ((bL I O).filter (laT (n+k)))∧lc n m I O k=(bL I O).filter (duT (n+k)):=by
 unfold nQ nR nS lc
 rw [if_pos h,if_pos h,if_pos h,if_pos h]
 exact ⟨rfl,rfl,rfl,rfl⟩
theorem Ma(h:wR n m I O=false):dt n m I O k=1:=by unfold dt;rw [h];rfl
theorem QO(h:wR n m I O=true)(h1:18446744073709551615 - n<k):dt n m I O k=10:=by unfold dt;rw [if_pos h,if_pos h1]
theorem ER(h:wR n m I O=true)(h1: ¬18446744073709551615 - n<k):dt n m I O k=0:=by unfold dt;rw [if_pos h,if_neg h1]
def onW (n k:Int)(L0:List Tm)(N T:Int)(L M:List Tm)(I O:Sl):Prop:=
 ((n<=N∧0<=T)∧N+T=n+k)∧(L=L0.filter (laT N)∧M=L0.filter (duT N))∧I=bI N L∧O=bO N L
theorem SL{n k:Int}{L0:List Tm}(h:g8 n L0)(hk:0<=k)(hI:I=bI n L0)(hO:O=bO n L0):onW n k L0 n k L0 [] I O:=by
 have e1:L0.filter (laT n)=L0:=ko fun t ht=>decide_eq_true (h.2.2 t ht).1
 have e2:L0.filter (duT n)= [] :=fI fun t ht=>decide_eq_false (by have:=(h.2.2 t ht).1;omega)
 exact ⟨⟨⟨Int.le_refl _,hk⟩,rfl⟩,⟨e1.symm,e2.symm⟩,hI,hO⟩
theorem QP{n k N T:Int}{L0 L M:List Tm}(h:g8 n L0)(ho:onW n k L0 N T L M I O):g8 N L:=by rw [ho.2.1.1];exact QK h ho.1.1.1
theorem Oz{n k N T:Int}{L0 L M:List Tm}(h:g8 n L0)(ho:onW n k L0 N T L M I O)(hT:0<T):
 onW n k L0 (N+1) (T - 1) (L.filter (laT (N+1))) (M++sd (N+1) L) (bI (N+1) (L.filter (laT (N+1)))) (bO (N+1) (L.filter (laT (N+1)))):=by
 obtain ⟨⟨⟨h1,h2⟩,h3⟩,⟨h4,h5⟩,_,_⟩:=ho
 refine ⟨⟨⟨by omega,by omega⟩,by omega⟩,⟨?_, ?_⟩,rfl,rfl⟩
 · rw [h4,Ox (by omega)]
 · rw [h5,h4,Kz h.1]
theorem QQ{n k N T:Int}{L0 L M:List Tm}(ho:onW n k L0 N T L M I O)(he:L= [] ∨T=0):I=bI (n+k) (L0.filter (laT (n+k)))∧O=bO (n+k) (L0.filter (laT (n+k)))∧M=L0.filter (duT (n+k)):=by
 obtain ⟨⟨⟨h1,h2⟩,h3⟩,⟨h4,h5⟩,h6,h7⟩:=ho
 rcases he with he|he
 · have e1: ∀ t∈L0,t.u<=N:=fun t ht=>by
    rcases Int.lt_or_le N t.u with h8|h8
    · have:t∈L0.filter (laT N):=List.mem_filter.2 ⟨ht,decide_eq_true h8⟩
      rw [<-h4,he] at this
      simp at this
    · exact h8
   have e2:L0.filter (laT (n+k))= [] :=fI fun t ht=>decide_eq_false (by have:=e1 t ht;omega)
   rw [e2,h6,h7,he,h5]
   refine ⟨(L9 _ _).1,(L9 _ _).2, ?_⟩
   rw [ko (p:=duT N) fun t ht=>decide_eq_true (e1 t ht),ko (p:=duT (n+k)) fun t ht=>decide_eq_true (by have:=e1 t ht;omega)]
 · obtain rfl:N=n+k:=by omega
   rw [h6,h7,h5,h4]
   exact ⟨rfl,rfl,rfl⟩
end Go.Vd
set_option maxHeartbeats 8000000
namespace Go.Vd
open Go.Proofs
noncomputable def xV:Ar->Xt:=fun A=> { xW A with go:= [86,75,145,147,146] }
theorem R9:XtOk Tryz.prog gl0 (xV std):=⟨ub.meth,ub.wt⟩
attribute [local irreducible] vc
theorem HK(n m k:Int)(I O:Sl)(hQ:whQ I O)(hn:0<=n∧n<18446744073709551616)(hk:0<=k∧k<18446744073709551616):GFn 52 (fun A=> [whS A n m I O, .int .u64 k]) (fun A=> .tup [whT A (A.ti fun _=>nQ n m I O k) m (fun _=>nR n m I O k) (fun _=>nS n m I O k),aF eT T0 3 A fun _=>lc n m I O k, .int .i64 (A.ti fun _=>dt n m I O k)]):=by
 refine aC zY R9 zX Tryz.func52 (.none) fun A hA=> ?_
 cbv
 repeat' (first| (with_reducible first|exact vT|exact vD hA|exact vE hA|refine vA ?_ ?_) | (intro hc;cbv))
 refine ⟨qe A n m I O 4 4,⟨some ⟨0,by omega⟩, ?_⟩, ?_⟩
 · cbv
   subst hA
   simp [-List.getD_eq_getElem?_getD,sS,bm]
 · rintro (_| ⟨i,hi⟩)
   rotate_left 1
   · have h1:=fA hQ hi
     obtain ⟨i',hi'⟩: ∃ i',i'=i+1:=⟨_,rfl⟩
     cbv
     repeat' (first| (with_reducible first|exact vT|exact vD hA|exact vE hA|refine vA ?_ ?_) | (intro hc;cbv))
     all_goals first
      | (exfalso;subst hA;have hq:std.lt (Int.ofNat i) 64=false:=by assumption
         have: ¬((i:Nat):Int)<64:=of_decide_eq_false hq
         omega)
      | (fail_if_success (refine Exists.intro ?_ ?_)
         subst hA
         simp only [sS,iNE,fd,cd] at*
         first
          |done
          |exact ⟨by omega,by omega⟩
          |exact ⟨trivial,by unfold sl at h1;omega⟩
          |omega
          | (constructor<;>omega))
      |skip
     by_cases h:i'<64
     · refine ⟨some ⟨i',h⟩, ?_,show 64 - i'<64 - i by omega⟩
       cbv
       subst hA
       simp [-List.getD_eq_getElem?_getD,sS,bm,cd,jM]
       exact ⟨ce hi' (by omega),hi'.symm⟩
     · refine ⟨none, ?_,show 0<64 - i by omega⟩
       cbv
       subst hA
       simp [-List.getD_eq_getElem?_getD,sS,bm,cd,jM]
       exact ⟨by rw [w64 (by omega)];omega,by omega⟩
   · have rI:=qj hQ.1.1
     have rO:=qj hQ.1.2
     have lI:=mG hQ.1.1
     have lO:=mG hQ.1.2
     have hQ1:=hQ.2.1
     have q0:IntKind.u64.wrap (18446744073709551615 - n)=18446744073709551615 - n:=wU (by omega)
     cbv
     repeat' (first| (with_reducible first|exact vT|exact vD hA|exact vE hA|refine vA ?_ ?_) | (intro hc;cbv))
     all_goals (try (exfalso;subst hA;simp only [sS] at hc;exact absurd hc (by decide)))
     all_goals first
      | (fail_if_success (refine Exists.intro ?_ ?_)
         subst hA
         simp only [sS,ay hQ.1.1,ay hQ.1.2,ah hQ.1.1,ah hQ.1.2,rI,rO,lI,lO,q0] at*
         first
          |done
          |exact ⟨⟨⟨trivial,trivial⟩,hQ⟩,hn.1⟩
          | (have hR:(!wR n m I O)=true:=by assumption
             have h1:=Ma (k:=k) (nI hR)
             have h2:=Ab (by rw [h1];decide)
             first
              | (rw [h1];done)
              | (rw [h2.1];done)
              | (rw [h2.2.1];exact bS _)
              | (rw [h2.2.2.1];exact bS _)
              | (rw [h2.2.2.2];rfl)
              | (rw [h2.2.2.2];done))
          | (have hR:(!wR n m I O)=false:=by assumption
             have hK:decide (18446744073709551615 - n<k)=true:=by assumption
             have h1:=QO (eH hR) (of_decide_eq_true hK)
             have h2:=Ab (by rw [h1];decide)
             first
              | (rw [h1];done)
              | (rw [h2.1];done)
              | (rw [h2.2.1];exact bS _)
              | (rw [h2.2.2.1];exact bS _)
              | (rw [h2.2.2.2];rfl)
              | (rw [h2.2.2.2];done))
)
      |skip
     have hRK:wR n m I O=true∧ ¬18446744073709551615 - n<k:=by
      subst hA
      simp only [sS,ah hQ.1.1,ah hQ.1.2,q0] at*
      exact ⟨eH (by assumption),of_decide_eq_false hc⟩
     obtain ⟨hR,hK⟩:=hRK
     have hW:=dC.1 hR
     refine ⟨⟨{p:Nat×List Tm // p.1<=64∧p.2=bx I O p.1},fun b p=> [(3, .own b),(5, .int .i64 (p.1.1:Nat))],fun b p=> [(b, .row 113 3 (A.tn fun _=>p.1.2.length) (ax eT T0 A fun _=>p.1.2))],fun p=>64 - p.1.1,true⟩,⟨⟨(0, []),Nat.zero_le _,rfl⟩, ?_⟩, ?_⟩
     · cbv
       subst hA
       simp [-List.getD_eq_getElem?_getD,sS,bm]
     · rintro ⟨⟨i,M⟩,hx⟩
       have hi:i<=64:=hx.1
       have hM:M=bx I O i:=hx.2
       rcases Nat.lt_or_ge i 64 with hlt|hge
       · have hb:=fA hQ hlt
         rw [<-hM] at hb
         obtain ⟨i',hi'⟩: ∃ i',i'=i+1:=⟨_,rfl⟩
         obtain ⟨L1,hL1⟩: ∃ L1,L1=sl I i:=⟨_,rfl⟩
         obtain ⟨L2,hL2⟩: ∃ L2,L2=sl O i:=⟨_,rfl⟩
         rw [<-hL1,<-hL2] at hb
         have e1:I.getD i [] =L1:=hL1.symm
         have e2:O.getD i [] =L2:=hL2.symm
         obtain ⟨M',hM'⟩: ∃ M',M'=M++(L1++L2):=⟨_,rfl⟩
         have hMM:M'=bx I O i':=by rw [hM',hi',hM,hL1,hL2];rfl
         cbv
         repeat' (first| (with_reducible first|exact vT|exact vD hA|exact vE hA|refine vA ?_ ?_) | (intro hc;cbv))
         all_goals (try (exfalso;subst hA;have hq:std.lt (Int.ofNat i) 64=false:=by assumption
                         have: ¬((i:Nat):Int)<64:=of_decide_eq_false hq
                         omega))
         all_goals first
          | (fail_if_success (refine Exists.intro ?_ ?_)
             subst hA
             simp only [sS,iNE,e1,e2] at*
             first
              |exact ⟨by omega,by omega⟩
              |omega)
          | (refine ⟨⟨(i',M'),by show i'<=64;omega,hMM⟩, ?_,show 64 - i'<64 - i by omega⟩
             cbv
             subst hA
             simp [-List.getD_eq_getElem?_getD,sS,e1,e2,bm]
             refine ⟨ce hi' (by omega), ?_, ?_⟩
             · rw [hM'];simp;omega
             · exact c7 (((au.lit M).cat (au.lit L1)).cat (au.lit L2)) (by rw [hM'];simp;omega) (by rw [hM',List.append_assoc]))
       · have hie:i=64:=by omega
         subst hie
         have hML:M=aR I O:=by rw [hM,<-fh]
         obtain ⟨L0,hL0,hcan,hI0,hO0,hlm,hok⟩:=zM hQ.1.1 hQ.1.2 hW
         have hlen0:M.length=L0.length:=by rw [hML,hL0];unfold bL;rw [jm]
         have hMl0:M.length<=100000:=by rw [hML];exact hQ.2.1
         have hL0l:L0.length<=100000:=by omega
         have hstart:=SL hcan hk.1 hI0 hO0
         have hL0T: ∀ t∈L0,tmQ t:=fun t ht=>hQ.2.2 t (gi.1 (by rw [hL0] at ht;exact ht))
         have hadv:=vn (ER hR hK)
         rw [<-hL0] at hadv
         cbv
         repeat' (first| (with_reducible first|exact vT|exact vD hA|exact vE hA|refine vA ?_ ?_) | (intro hc;cbv))
         all_goals (try (exfalso;subst hA;simp only [sS] at hc;exact absurd hc (by decide)))
         refine ⟨⟨{p:(Int×Int)×(List Tm×List Tm)×(Sl×Sl) // onW n k L0 p.1.1 p.1.2 p.2.1.1 p.2.1.2 p.2.2.1 p.2.2.2},fun b p=> [(11, .any),(12, .any),(13, .any),(14, .any),(15, .any),(16, .any),(17, .any),(18, .any),(19, .any),(20, .any),(21, .any),(22, .any),(23, .any),(24, .any),(25, .any),(26, .any),(1, .int .u64 p.1.1.2),(8, .own b),(9, .int .i64 (A.ofNat (A.tn fun _=>p.1.2.1.1.length))),(10, .any)],fun b p=> [(7,kdW A (b+1) 64 p.1.2.2.1),(9,kdW A (b+2) 64 p.1.2.2.2),(b, .row 113 3 (A.tn fun _=>p.1.2.1.2.length) (ax eT T0 A fun _=>p.1.2.1.2)),(0, .box 31 [.int .u64 p.1.1.1, .int .i64 m, .krun 7 (b+1) 64, .krun 9 (b+2) 64])],fun p=>p.1.1.2.toNat,true⟩,⟨⟨((n,k),(L0, []),(I,O)),hstart⟩, ?_⟩, ?_⟩
         · cbv
           subst hA
           simp [-List.getD_eq_getElem?_getD,sS,bm,hlen0]
         · rintro ⟨⟨⟨N,T⟩,⟨L,M2⟩,⟨I',O'⟩⟩,hx2⟩
           have hon:onW n k L0 N T L M2 I' O':=hx2
           have hcN:=QP hcan hon
           have hLsub: ∀ t∈L,t∈L0:=fun t ht=>by rw [hon.2.1.1] at ht;exact (List.mem_filter.1 ht).1
           have hLl:L.length<=100000:=by rw [hon.2.1.1];exact Nat.le_trans (List.length_filter_le _ _) hL0l
           have hM2l:M2.length<=100000:=by rw [hon.2.1.2];exact Nat.le_trans (List.length_filter_le _ _) hL0l
           have g1:=hon.1.1.1
           have g2:=hon.1.1.2
           have g3:=hon.1.2
           have hLn:L.length=0↔L= [] :=List.length_eq_zero_iff
           rcases Classical.em (L.length=0∨T=0) with he|he
           · have hend:=QQ hon (by rw [<-hLn];exact he)
             have w0:IntKind.u64.wrap (N+T)=n+k:=by rw [g3];exact wU (by omega)
             have hcond:(bif ((L.length:Int)==0) then true else (T==0))=true:=by
              rcases he with he|he<;>simp [he]
             obtain ⟨E,hE⟩: ∃ E,E=n+k:=⟨_,rfl⟩
             rw [<-hE] at w0 hend hadv
             cbv
             repeat' (first| (with_reducible first|exact vT|exact vD hA|exact vE hA|refine vA ?_ ?_) | (intro hc;cbv))
             all_goals first
              | (exfalso
                 subst hA
                 have hq:std.ite (std.eq (std.ofNat (std.tn fun _=>L.length)) 0) true (std.eq T 0)=false:=by assumption
                 have hq2:(bif ((L.length:Int)==0) then true else (T==0))=false:=hq
                 rw [hcond] at hq2
                 cases hq2)
              |skip
             all_goals
              subst hA
              clear hc
              simp only [sS,w0]
              first
               |done
               |exact fun h=>h
               |exact fun h=>⟨h,h⟩
               | (intro h;rw [h];rfl)
               |exact hadv.1.symm
               | (rw [hadv.2.1,<-hend.1];exact bS _)
               | (rw [hadv.2.2.1,<-hend.2.1];exact bS _)
               | (rw [hadv.2.2.2,<-hend.2.2];done)
               | (rw [hadv.2.2.2,<-hend.2.2];exact bG)
               |exact (ER hR hK).symm
           · have hL0: ¬L.length=0:=fun h=>he (.inl h)
             have hT0: ¬T=0:=fun h=>he (.inr h)
             have hcond:(bif ((L.length:Int)==0) then true else (T==0))=false:=by
              rw [show ((L.length:Int)==0)=false by simp;exact fun h=>hL0 (by rw [h];rfl),show (T==0)=false by simp;exact hT0]
              rfl
             obtain ⟨N',hN'⟩: ∃ N',N'=N+1:=⟨_,rfl⟩
             obtain ⟨T',hT'⟩: ∃ T',T'=T - 1:=⟨_,rfl⟩
             have hN'u:0<=N'∧N'<18446744073709551616:=by omega
             have w1:IntKind.u64.wrap (N+1)=N':=by rw [<-hN'];exact wU hN'u
             have w2:IntKind.u64.wrap (T - 1)=T':=by rw [<-hT'];exact wU (by omega)
             have r1:N'.tmod 64=N' % 64:=Int.tmod_eq_emod_of_nonneg hN'u.1
             obtain ⟨D,hD⟩: ∃ D,D=sd N' L:=⟨_,rfl⟩
             obtain ⟨L',hL'⟩: ∃ L',L'=L.filter (laT N'):=⟨_,rfl⟩
             obtain ⟨M',hM'⟩: ∃ M',M'=M2++D:=⟨_,rfl⟩
             obtain ⟨I2,hI2⟩: ∃ I2,I2=bI N' L':=⟨_,rfl⟩
             obtain ⟨O2,hO2⟩: ∃ O2,O2=bO N' L':=⟨_,rfl⟩
             have hnext:onW n k L0 N' T' L' M' I2 O2:=by
              have:=Oz hcan hon (by omega)
              rw [<-hN',<-hT',<-hD,<-hL',<-hM',<-hI2,<-hO2] at this
              exact this
             have hge1: ∀ t∈L,N'<=t.u:=fun t ht=>by have:=(hcN.2.2 t ht).1;omega
             obtain ⟨zi,hzI⟩: ∃ zi:Nat,(zi:Int)=N' % 64:=⟨(N' % 64).toNat,by omega⟩
             have hzi64:zi<64:=by omega
             have hsl:(N' % 64).toNat=zi:=by omega
             have hdI:=R8 hge1 hzI
             have hdl:=Oy hge1
             rw [<-hD,<-hL'] at hdl
             have hMl':M2.length+D.length=M'.length:=by rw [hM',List.length_append]
             have w3:IntKind.i64.wrap ((L.length:Int) - (D.length:Int))=(L'.length:Int):=by rw [w64 (by omega)];omega
             rcases Classical.em (N' % 64=0) with ht0|ht0
             · have hturn0:(N+1) % 64=0:=by omega
               obtain ⟨zo,hzO⟩: ∃ zo:Nat,(zo:Int)=N' / 64 % 64:=⟨(N' / 64 % 64).toNat,by omega⟩
               have hzo64:zo<64:=by omega
               have hslo:(N' / 64 % 64).toNat=zo:=by omega
               have hslo2:fz false N'=(zo:Int):=hzO.symm
               obtain ⟨K,hK2⟩: ∃ K,K=sl O' zo:=⟨_,rfl⟩
               obtain ⟨O1,hO1⟩: ∃ O1,O1=O'.set zo [] :=⟨_,rfl⟩
               have hgK:O'.getD zo [] =K:=hK2.symm
               have hO1e:O1=bO N' L:=by rw [hO1,hon.2.2.2,hN'];exact QN hcN hturn0 (by rw [<-hN'];exact hzO)
               have hKe:bI N' K=bI N' L:=by rw [hK2,hon.2.2.2,hN'];exact QM hcN hturn0 (by rw [<-hN'];exact hzO)
               have hI0':I'=bI N' [] :=by rw [hon.2.2.1,hN'];exact QL hcN hturn0
               have hKf:K=L.filter (inO N zo):=by rw [hK2,hon.2.2.2];exact cH hzo64
               have hKa:dq K:=by rw [hKf];exact hcN.1.sublist List.filter_sublist
               have hKl:K.length<=100000:=by rw [hKf];exact Nat.le_trans (List.length_filter_le _ _) hLl
               have hKt: ∀ t∈K,tmQ t∧t.u / 64=N' / 64:=fun t ht=>by
                rw [hKf] at ht
                have h1:=List.mem_filter.1 ht
                have h2:=hcN.2.2 t h1.1
                have h3: ¬t.u / 64=N / 64∧t.u / 64 % 64=(zo:Int):=of_decide_eq_true h1.2
                unfold l9 at h2
                exact ⟨hL0T t (hLsub t h1.1),by omega⟩
               have hOl:O'.length=64:=by rw [hon.2.2.2];exact bZ _ _
               have hknO:=pq hzo64 hOl hO1
               cbv
               repeat' (first| (with_reducible first|exact vT|exact vD hA|exact vE hA|refine vA ?_ ?_) | (intro hc;cbv))
               all_goals first
                | (exfalso
                   subst hA
                   clear hnext
                   simp only [sS,iNE,w1,w2,r1,ej,hsl,hslo2,hgK] at*
                   first
                    | (have hq:(N' % 64==0)=false:=by assumption
                       simp at hq
                       omega)
                    | (have hq:(bif ((L.length:Int)==0) then true else (T==0))=true:=by assumption
                       rw [hcond] at hq
                       cases hq))
                | (fail_if_success (refine Exists.intro ?_ ?_)
                   subst hA
                   clear hnext
                   simp only [sS,iNE,w1,w2,r1,ej,hslo2] at*
                   first
                    |done
                    |decide
                    |exact fun h=>h
                    |exact fun h=>⟨h,h⟩
                    | (intro h;rw [h];rfl)
                    |exact hN'u
                    |exact ⟨(show (0:Int)<=((zo:Nat):Int) by omega),(show ((zo:Nat):Int)<((64:Nat):Int) by omega)⟩
)
                |skip
               refine ⟨⟨{p:Nat×Sl // p.1<=K.length∧p.2=bI N' (K.take p.1)},fun b p=> [(27,aF eT T0 3 A fun _=>K),(28, .int .i64 (A.ofNat (A.tn fun _=>K.length))),(29, .int .i64 (p.1.1:Nat))],fun b p=> [(7,kdW A b 64 p.1.2),(9,kdW A (b+1) 64 O1),(0, .box 31 [.int .u64 N', .int .i64 m, .krun 7 b 64, .krun 9 (b+1) 64])],fun p=>K.length - p.1.1,true⟩,⟨⟨(0,I'),Nat.zero_le _,by rw [List.take_zero];exact hI0'⟩, ?_⟩, ?_⟩
               · cbv
                 subst hA
                 simp [-List.getD_eq_getElem?_getD,sS,bm,w1,hslo2,hgK]
                 exact hknO
               · rintro ⟨⟨j,J⟩,hx3⟩
                 have hj:j<=K.length:=hx3.1
                 have hJ:J=bI N' (K.take j):=hx3.2
                 have hJl:J.length=64:=by rw [hJ];exact bH _ _
                 rcases Nat.lt_or_ge j K.length with hlt|hge
                 · obtain ⟨j',hj'⟩: ∃ j',j'=j+1:=⟨_,rfl⟩
                   obtain ⟨t,ht⟩: ∃ t,t=K.getD j T0:=⟨_,rfl⟩
                   have hgt:K.getD j { s:=0,r:= [],u:=0 } =t:=ht.symm
                   obtain ⟨htQ,htu⟩:=hKt t (ht▸iS hlt)
                   obtain ⟨z,hz⟩: ∃ z:Nat,(z:Int)=t.u % 64:=⟨(t.u % 64).toNat,by omega⟩
                   have hz64:z<64:=by omega
                   have htz:fz true t.u=(z:Int):=hz.symm
                   obtain ⟨P,hP⟩: ∃ P,P=sl J z:=⟨_,rfl⟩
                   have hJz:J.getD z [] =P:=hP.symm
                   have hPf:P=(K.take j).filter (inI N' z):=by rw [hP,hJ];exact cw hz64
                   have hPl:P.length<=100000:=by rw [hPf];refine Nat.le_trans (List.length_filter_le _ _) ?_;rw [List.length_take];omega
                   have hPa:dq P:=by rw [hPf];exact (hKa.sublist (List.take_sublist _ _)).sublist List.filter_sublist
                   have hbef: ∀ y∈P,ltT y t:=fun y hy=>by rw [ht];exact nP hKa hlt y (List.mem_filter.1 (hPf▸hy)).1
                   have hne: ∀ y∈sl J z,¬y=t:=fun y hy e=>by
                    have:=hbef y (by rw [hP];exact hy)
                    rw [e] at this
                    exact ik _ this
                   have hpp:=im P t
                   obtain ⟨J2,hJ2⟩: ∃ J2,J2=J.set z (bP P t):=⟨_,rfl⟩
                   have hJ3:J2=bI N' (K.take j'):=by
                    rw [hj',<-bk (d:=T0) hlt,<-ht,(Om htu hz).1,<-hJ,<-hP,hJ2,lD hbef]
                   have hkp:=pn (s:=t.s) (u:=t.u) (r:=t.r) hz64 hJl hne
                   have hsb:sl J z=P:=hJz
                   rw [hsb,hJz] at hkp
                   cbv
                   repeat' (first| (with_reducible first|exact vT|exact vD hA|exact vE hA|refine vA ?_ ?_) | (intro hc;cbv))
                   all_goals first
                    | (exfalso
                       subst hA
                       clear hnext
                       have hq:std.lt (Int.ofNat j) (std.ofNat (std.tn fun _=>K.length))=false:=by assumption
                       simp only [sS,Int.ofNat_eq_natCast] at hq
                       have:=of_decide_eq_false hq
                       omega)
                    | (fail_if_success (refine Exists.intro ?_ ?_)
                       subst hA
                       clear hnext
                       simp only [sS,iNE,hgt,htz,hJz,fd,cd,gB] at*
                       first
                        |done
                        |exact htQ
                        |exact ⟨by omega,by omega⟩
                        |exact ⟨(show (0:Int)<=((z:Nat):Int) by omega),(show ((z:Nat):Int)<((64:Nat):Int) by omega)⟩
                        |exact ⟨⟨trivial,by omega⟩,hPa⟩
                        |exact ⟨⟨Int.natCast_nonneg _,Int.ofNat_le.2 hpp⟩,by omega⟩
)
                    |skip
                   refine ⟨⟨(j',J2),by show j'<=K.length;omega,hJ3⟩, ?_,show K.length - j'<K.length - j by omega⟩
                   cbv
                   subst hA
                   simp [-List.getD_eq_getElem?_getD,sS,hgt,htz,hJz,cd,gB,bm]
                   refine ⟨ce hj' (by omega), ?_⟩
                   rw [hJ2]
                   exact vm hkp
                 · have hje:j=K.length:=by omega
                   rw [hje,List.take_length,hKe] at hJ
                   have hIl:=hJl
                   have hDz:J.getD zi [] =D:=by rw [hJ,hD];exact HJ hzI
                   have hset:I2=J.set zi [] :=by rw [hJ,hI2,hL'];exact hdI.1.symm
                   have hOO:O1=O2:=by rw [hO1e,hO2,hL'];exact hdI.2
                   have hkn:=pq hzi64 hIl hset
                   have hkO:True:=True.intro
                   cbv
                   repeat' (first| (with_reducible first|exact vT|exact vD hA|exact vE hA|refine vA ?_ ?_) | (intro hc;cbv))
                   all_goals first
                    | (exfalso
                       subst hA
                       clear hnext
                       simp only [sS,iNE,w1,w2,r1,ej,hsl,hDz] at*
                       first
                        | (have hq:decide ((j:Int)<(K.length:Int))=true:=by assumption
                           have:=of_decide_eq_true hq
                           omega))
                    | (fail_if_success (refine Exists.intro ?_ ?_)
                       subst hA
                       clear hnext
                       simp only [sS,iNE,w1,w2,r1,ej,hsl,hDz,hzI] at*
                       first
                        |done
                        |decide
                        |exact fun h=>h
                        |exact fun h=>⟨h,h⟩
                        | (intro h;rw [h];rfl)
                        |exact hN'u
                        |exact ⟨by omega,by omega⟩
                        |exact ⟨(show (0:Int)<=((zi:Nat):Int) by omega),(show ((zi:Nat):Int)<((64:Nat):Int) by omega)⟩
)
                    |skip
                   refine ⟨⟨((N',T'),(L',M'),(I2,O2)),hnext⟩, ?_,show T'.toNat<T.toNat by omega⟩
                   cbv
                   subst hA
                   simp [-List.getD_eq_getElem?_getD,sS,w1,w2,ej,hsl,hzI,hDz,bm,hOO]
                   repeat' (with_reducible refine And.intro ?_ ?_)
                   all_goals first
                    |exact w3
                    |exact hkn
                    |exact hMl'
                    |exact hMl'.symm
                    |exact c7 ((au.lit M2).cat (au.lit D)) hMl'.symm hM'.symm
                    |exact c7 ((au.lit M2).cat (au.lit D)) rfl hM'.symm
             · have hsame:=Ow (n:=N) (n':=N') (by omega) L
               have hIe:I'=bI N' L:=by rw [hon.2.2.1];exact hsame.1
               have hOe:O'=bO N' L:=by rw [hon.2.2.2];exact hsame.2
               have hIl:I'.length=64:=by rw [hIe];exact bH _ _
               have hDz:I'.getD zi [] =D:=by rw [hIe,hD];exact HJ hzI
               have hset:I2=I'.set zi [] :=by rw [hIe,hI2,hL'];exact hdI.1.symm
               have hOO:O'=O2:=by rw [hOe,hO2,hL'];exact hdI.2
               have hkn:=pq hzi64 hIl hset
               have hkO:True:=True.intro
               cbv
               repeat' (first| (with_reducible first|exact vT|exact vD hA|exact vE hA|refine vA ?_ ?_) | (intro hc;cbv))
               all_goals first
                | (exfalso
                   subst hA
                   clear hnext
                   simp only [sS,iNE,w1,w2,r1,ej,hsl,hDz] at*
                   first
                    | (have hq:(N' % 64==0)=true:=by assumption
                       simp at hq
                       omega)
                    | (have hq:(bif ((L.length:Int)==0) then true else (T==0))=true:=by assumption
                       rw [hcond] at hq
                       cases hq))
                | (fail_if_success (refine Exists.intro ?_ ?_)
                   subst hA
                   clear hnext
                   simp only [sS,iNE,w1,w2,r1,ej,hsl,hDz,hzI] at*
                   first
                    |done
                    |decide
                    |exact fun h=>h
                    |exact fun h=>⟨h,h⟩
                    | (intro h;rw [h];rfl)
                    |exact hN'u
                    |exact ⟨by omega,by omega⟩
                    |exact ⟨(show (0:Int)<=((zi:Nat):Int) by omega),(show ((zi:Nat):Int)<((64:Nat):Int) by omega)⟩
)
                |skip
               refine ⟨⟨((N',T'),(L',M'),(I2,O2)),hnext⟩, ?_,show T'.toNat<T.toNat by omega⟩
               cbv
               subst hA
               simp [-List.getD_eq_getElem?_getD,sS,w1,w2,ej,hsl,hzI,hDz,bm,hOO]
               repeat' (with_reducible refine And.intro ?_ ?_)
               all_goals first
                |exact w3
                |exact hkn
                |exact hMl'
                |exact hMl'.symm
                |exact c7 ((au.lit M2).cat (au.lit D)) hMl'.symm hM'.symm
                |exact c7 ((au.lit M2).cat (au.lit D)) rfl hM'.symm
end Go.Vd
namespace Go.Vd
open Go.Proofs
theorem vo{n m s u:Int}{I O:Sl}{r:List UInt8}(hI:I.length=64)(hO:O.length=64)(h:dD n m I O s r u=0)(hu:0<=u):bI n (bP (bL I O) ⟨s,r,u⟩)=gj n m I O s r u∧bO n (bP (bL I O) ⟨s,r,u⟩)=gk n m I O s r u:=by
 have hR:wR n m I O=true:=by
  cases hR:wR n m I O
  · rw [EN hR] at h;cases h
  · rfl
 have hH:hkT (aR I O) s r=false:=by
  cases hH:hkT (aR I O) s r
  · rfl
  · rw [EO hR hH] at h;cases h
 obtain ⟨hc,e1,e2,_⟩:=vh hI hO (dC.1 hR)
 have hne: ∀ x∈bL I O,¬x=⟨s,r,u⟩:=fun x hx=>mE ((t7 (t:=⟨s,r,u⟩)).1 hH x (gi.1 hx))
 by_cases hq:u / 64=n / 64
 · obtain ⟨z,hz⟩: ∃ z:Nat,(z:Int)=u % 64:=⟨(u % 64).toNat,by omega⟩
   have h1:=Qy (t:=⟨s,r,u⟩) hc.1 hne hq hz
   have h2:=HG h hq
   rw [h1.1,h1.2,h2.1,h2.2,<-e1,<-e2,show (u % 64).toNat=z by omega]
   exact ⟨rfl,rfl⟩
 · obtain ⟨z,hz⟩: ∃ z:Nat,(z:Int)=u / 64 % 64:=⟨(u / 64 % 64).toNat,by omega⟩
   have h1:=Qz (t:=⟨s,r,u⟩) hc.1 hne hq hz
   have h2:=C5 h hq
   rw [h1.1,h1.2,h2.1,h2.2,<-e1,<-e2,show (u / 64 % 64).toNat=z by omega]
   exact ⟨rfl,rfl⟩
attribute [local irreducible] vc
end Go.Vd
namespace Go.Vd
open Go.Proofs
variable {L:List Tm} {t:Tm}
theorem QR(h:cy L){x t:Tm}(hx:x∈L)(ht:t∈L)(e1:x.s=t.s)(e2:x.r=t.r):x=t:=by
 obtain ⟨i,hi,rfl⟩:=List.getElem_of_mem hx
 obtain ⟨j,hj,rfl⟩:=List.getElem_of_mem ht
 unfold cy at h
 rw [List.pairwise_iff_getElem] at h
 rcases Nat.lt_trichotomy i j with h6|h6|h6
 · exact absurd ⟨e1,e2⟩ (h i j hi hj h6)
 · subst h6;rfl
 · exact absurd ⟨e1.symm,e2.symm⟩ (h j i hj hi h6)
theorem Sa{s:Int}{r:List UInt8}{x:Tm}(h:otT s r x=false):x.s=s∧x.r=r:=by
 unfold otT at h
 simpa using h
theorem qk(hu:cy L)(ht:t∈L){p:Tm->Bool}(hp:p t=false):(L.filter (otT t.s t.r)).filter p=L.filter p:=by
 rw [List.filter_filter]
 refine List.filter_congr fun x hx=> ?_
 cases ho:otT t.s t.r x
 · have:=Sa ho
   rw [QR hu hx ht this.1 this.2,hp]
   rfl
 · rw [Bool.and_true]
theorem Ac(p q:Tm->Bool):(L.filter p).filter q=(L.filter q).filter p:=by
 rw [List.filter_filter,List.filter_filter]
 congr 1
 funext x
 exact Bool.and_comm ..
theorem Sb{n:Int}(hu:cy L)(ht:t∈L)(hq:t.u / 64=n / 64){z:Nat}(hz:(z:Int)=t.u % 64):bI n (L.filter (otT t.s t.r))=(bI n L).set z ((sl (bI n L) z).filter (otT t.s t.r))∧bO n (L.filter (otT t.s t.r))=bO n L:=by
 constructor
 · refine ck (bH _ _) (by rw [List.length_set];exact bH _ _) fun i hi=> ?_
   rw [cw hi,gO (bH _ _) (by omega),cw (by omega),cw hi]
   split
   · rename_i e;subst e;exact Ac _ _
   · rename_i e;exact qk hu ht (by unfold inI;rw [decide_eq_false_iff_not];omega)
 · refine ck (bZ _ _) (bZ _ _) fun i hi=> ?_
   rw [cH hi,cH hi]
   exact qk hu ht (by unfold inO;rw [decide_eq_false_iff_not];omega)
theorem Sc{n:Int}(hu:cy L)(ht:t∈L)(hq: ¬t.u / 64=n / 64){z:Nat}(hz:(z:Int)=t.u / 64 % 64):bO n (L.filter (otT t.s t.r))=(bO n L).set z ((sl (bO n L) z).filter (otT t.s t.r))∧bI n (L.filter (otT t.s t.r))=bI n L:=by
 constructor
 · refine ck (bZ _ _) (by rw [List.length_set];exact bZ _ _) fun i hi=> ?_
   rw [cH hi,gO (bZ _ _) (by omega),cH (by omega),cH hi]
   split
   · rename_i e;subst e;exact Ac _ _
   · rename_i e;exact qk hu ht (by unfold inO;rw [decide_eq_false_iff_not];omega)
 · refine ck (bH _ _) (bH _ _) fun i hi=> ?_
   rw [cw hi,cw hi]
   exact qk hu ht (by unfold inI;rw [decide_eq_false_iff_not];omega)
theorem OA{n m s:Int}{I O:Sl}{r:List UInt8}(hI:I.length=64)(hO:O.length=64)(hn:0<=n)(h:gG n m I O s r=0):bI n ((bL I O).filter (otT s r))=fB n m I O s r∧bO n ((bL I O).filter (otT s r))=fC n m I O s r:=by
 have hR:wR n m I O=true:=by
  cases hR:wR n m I O
  · rw [EQ hR] at h;cases h
  · rfl
 have hH:hkT (aR I O) s r=true:=by
  cases hH:hkT (aR I O) s r
  · rw [xb hR hH] at h;cases h
  · rfl
 obtain ⟨hc,e1,e2,_⟩:=vh hI hO (dC.1 hR)
 obtain ⟨t,h1,rfl,rfl,h4⟩:=uc hH
 have ht:t∈bL I O:=gi.2 h1
 have htu:=(hc.2.2 t ht).1
 by_cases hq:t.u / 64=n / 64
 · obtain ⟨z,hz⟩: ∃ z:Nat,(z:Int)=t.u % 64:=⟨(t.u % 64).toNat,by omega⟩
   have g1:=Sb hc.2.1 ht hq hz
   have g2:=HI h h4 hq
   rw [g1.1,g1.2,g2.1,g2.2,<-e1,<-e2,show (t.u % 64).toNat=z by omega]
   exact ⟨rfl,rfl⟩
 · obtain ⟨z,hz⟩: ∃ z:Nat,(z:Int)=t.u / 64 % 64:=⟨(t.u / 64 % 64).toNat,by omega⟩
   have g1:=Sc hc.2.1 ht hq hz
   have g2:=C6 h h4 hq
   rw [g1.1,g1.2,g2.1,g2.2,<-e1,<-e2,show (t.u / 64 % 64).toNat=z by omega]
   exact ⟨rfl,rfl⟩
attribute [local irreducible] vc
end Go.Vd
namespace Go.Vd
open Go.Proofs
attribute [local irreducible] vc
end Go.Vd
namespace Go.Vd
open Go.Proofs
variable {I O:Sl}
def shS (L:List Tm):Prop:= ∀ t∈L,t.r.length<=300
def shN (I O:Sl)(k:Nat):Prop:= ∀ i,i<k->((sl I i).length<=60∧(sl O i).length<=60)∧shS (sl I i)∧shS (sl O i)
def shQ (I O:Sl):Prop:=shN I O 64∧(aR I O).length<=300
open Classical in
noncomputable def shW (I O:Sl):Bool:=decide (shQ I O)
theorem vp :shW I O=true↔shQ I O:=by unfold shW;exact @decide_eq_true_iff _ (Classical.propDecidable _)
theorem Ad(h: ¬shN I O 64):shW I O=false:=by
 cases hb:shW I O
 · rfl
 · exact absurd (vp.1 hb).1 h
theorem OB(h:shN I O 64):shW I O=decide (((bx I O 64).length:Int)<=300):=by
 rw [Bool.eq_iff_iff,vp,decide_eq_true_eq,<-fh]
 constructor
 · intro hq;have:=hq.2;omega
 · intro hq;exact ⟨h,by omega⟩
theorem Ae{L:List Tm}{k:Nat}(h:shS (L.take k))(hk:k<L.length)(ht:(L.getD k T0).r.length<=300):shS (L.take (k+1)):=fun t h1=>by
 rw [<-bk (d:=T0) hk] at h1
 rcases List.mem_append.1 h1 with h1|h1
 · exact h t h1
 · rw [List.mem_singleton.1 h1];exact ht
theorem C7 : ∀ {k:Nat},shN I O k->(bx I O k).length<=120*k
 |0,_=>Nat.le_refl _
 |k+1,h=>by
  have ih:=C7 (k:=k) fun i hi=>h i (by omega)
  have:=(h k (by omega)).1
  simp only [bx,List.length_append]
  omega
attribute [local irreducible] vc
theorem Af(n m:Int)(I O:Sl)(hI:I.length=64)(hO:O.length=64):GFn 31 (fun A=> [whS A n m I O]) (fun A=> .bool (A.tb fun _=>shW I O)):=by
 refine aC mF ar ak Tryz.func31 (.one) fun A hA=> ?_
 cbv
 repeat' (first| (with_reducible first|exact vT|exact vD hA|exact vE hA|refine vA ?_ ?_) | (intro hc;cbv))
 refine ⟨⟨{p:Nat×Nat // p.1<=64∧shN I O p.1∧p.2=(bx I O p.1).length},fun b p=> [(3, .int .i64 (p.1.2:Nat)),(4, .int .i64 (p.1.1:Nat))],fun b p=> [],fun p=>64 - p.1.1,true⟩,⟨⟨(0,0),Nat.zero_le _,fun i hi=>absurd hi (by omega),rfl⟩, ?_⟩, ?_⟩
 · cbv
   subst hA
   simp [-List.getD_eq_getElem?_getD,sS]
 · rintro ⟨⟨i,q⟩,hx⟩
   have hi:i<=64:=hx.1
   have hN:shN I O i:=hx.2.1
   have hq:q=(bx I O i).length:=hx.2.2
   have hqb:=C7 hN
   rcases Nat.lt_or_ge i 64 with hlt|hge
   · obtain ⟨i',hi'⟩: ∃ i',i'=i+1:=⟨_,rfl⟩
     obtain ⟨L,hL⟩: ∃ L,L=sl I i:=⟨_,rfl⟩
     obtain ⟨L',hL'⟩: ∃ L',L'=sl O i:=⟨_,rfl⟩
     have e1:I.getD i [] =L:=hL.symm
     have e2:O.getD i [] =L':=hL'.symm
     have hno60: ¬(L.length<=60∧L'.length<=60)->shW I O=false:=fun h=>Ad fun hq=>h (by rw [hL,hL'];exact (hq i hlt).1)
     rcases Classical.em (L.length<=60∧L'.length<=60) with h60|h60
     rotate_left
     · cbv
       repeat' (first| (with_reducible first|exact vT|exact vD hA|exact vE hA|refine vA ?_ ?_) | (intro hc;cbv))
       all_goals first
        | (exfalso
           subst hA
           simp only [sS,iNE,e1,e2] at*
           first
            | (have hq:decide ((i:Int)<64)=false:=by assumption
               have:=of_decide_eq_false hq
               omega)
            | (have hq:(bif decide (60<(L.length:Int)) then true else decide (60<(L'.length:Int)))=false:=by assumption
               rcases Nat.lt_or_ge 60 L.length with h|h
               · rw [decide_eq_true (by omega)] at hq;cases hq
               · rw [decide_eq_false (by omega)] at hq
                 have:=of_decide_eq_false (p:=60<(L'.length:Int)) hq
                 omega))
        | (fail_if_success (refine Exists.intro ?_ ?_)
           subst hA
           simp only [sS,iNE,e1,e2] at*
           first
            |done
            |exact fun h=>h
            |exact fun h=>⟨h,h⟩
            |exact fun h=>⟨h,by omega,by omega⟩
            |exact fun h=>⟨⟨h,h⟩,by omega,by omega⟩
            | (intro h;rw [h];rfl)
            |exact ⟨by omega,by omega⟩
            |exact (hno60 h60).symm
)
     obtain ⟨n',hn'⟩: ∃ n',n'=q+(L.length+L'.length):=⟨_,rfl⟩
     have hnn:n'=(bx I O i').length:=by rw [hn',hi',hq,hL,hL'];simp [bx]
     have hnext:shS L->shS L'->shN I O i':=fun h1 h2 j hj=>by
      rcases Nat.lt_or_ge j i with h3|h3
      · exact hN j h3
      · obtain rfl:j=i:=by omega
        rw [<-hL,<-hL'];exact ⟨h60,h1,h2⟩
     have wq1:IntKind.i64.wrap ((q:Int)+(L.length:Int))=(q:Int)+(L.length:Int):=w64 (by omega)
     have wq2:IntKind.i64.wrap ((q:Int)+(L.length:Int)+(L'.length:Int))=(n':Int):=by rw [w64 (by omega)];omega
     clear hno60
     cbv
     repeat' (first| (with_reducible first|exact vT|exact vD hA|exact vE hA|refine vA ?_ ?_) | (intro hc;cbv))
     all_goals first
      | (exfalso
         subst hA
         simp only [sS,iNE,e1,e2] at*
         first
          | (have hq:decide ((i:Int)<64)=false:=by assumption
             have:=of_decide_eq_false hq
             omega)
          | (have hq:(bif decide (60<(L.length:Int)) then true else decide (60<(L'.length:Int)))=true:=by assumption
             rw [decide_eq_false (show ¬60<(L.length:Int) by omega)] at hq
             have:=of_decide_eq_true (p:=60<(L'.length:Int)) hq
             omega))
      | (fail_if_success (refine Exists.intro ?_ ?_)
         subst hA
         simp only [sS,iNE,e1,e2] at*
         first
          |done
          |exact fun h=>h
          |exact fun h=>⟨h,h⟩
          |exact fun h=>⟨h,by omega,by omega⟩
          |exact fun h=>⟨⟨h,h⟩,by omega,by omega⟩
          | (intro h;rw [h];rfl)
          |exact ⟨by omega,by omega⟩
)
      |skip
     refine ⟨⟨{k:Nat // k<=L.length∧shS (L.take k)},fun b k=> [(5, .int .i64 (k.1:Nat))],fun b k=> [],fun k=>L.length - k.1,true⟩,⟨⟨0,Nat.zero_le _,fun t ht=>by simp at ht⟩, ?_⟩, ?_⟩
     · cbv
       subst hA
       simp [-List.getD_eq_getElem?_getD,sS]
     · rintro ⟨k,hy⟩
       have hk:k<=L.length:=hy.1
       have hS:shS (L.take k):=hy.2
       rcases Nat.lt_or_ge k L.length with hltk|hgek
       · obtain ⟨k',hk'⟩: ∃ k',k'=k+1:=⟨_,rfl⟩
         obtain ⟨t,ht⟩: ∃ t,t=L.getD k T0:=⟨_,rfl⟩
         have hgt:L.getD k { s:=0,r:= [],u:=0 } =t:=ht.symm
         have hyes:t.r.length<=300->shS (L.take k'):=fun h=>by rw [hk'];exact Ae hS hltk (ht▸h)
         have hno: ¬t.r.length<=300->shW I O=false:=fun h=>Ad fun hq=>h ((hq i hlt).2.1 t (by rw [ht,<-hL];exact iS hltk))
         cbv
         repeat' (first| (with_reducible first|exact vT|exact vD hA|exact vE hA|refine vA ?_ ?_) | (intro hc;cbv))
         all_goals first
          | (exfalso
             subst hA
             simp only [sS,iNE,e1] at*
             have hq:decide ((k:Int)<(L.length:Int))=false:=by assumption
             have:=of_decide_eq_false hq
             omega)
          | (fail_if_success (refine Exists.intro ?_ ?_)
             subst hA
             clear hyes
             simp only [sS,iNE,e1,hgt] at*
             first
              |done
              |exact ⟨by omega,by omega⟩
              | (refine (hno fun e=> ?_).symm
                 rw [decide_eq_true e] at hc
                 cases hc)
)
          | (have hok:t.r.length<=300:=by
              subst hA
              clear hyes hno
              simp only [sS,iNE,e1,hgt] at*
              have:=eH hc
              exact of_decide_eq_true this
             refine ⟨⟨k',by omega,hyes hok⟩, ?_,show L.length - k'<L.length - k by omega⟩
             cbv
             subst hA
             simp [-List.getD_eq_getElem?_getD,sS]
             exact ce hk' (by omega))
       · have hke:k=L.length:=by omega
         rw [hke,List.take_length] at hS
         have hs1:=hS
         cbv
         repeat' (first| (with_reducible first|exact vT|exact vD hA|exact vE hA|refine vA ?_ ?_) | (intro hc;cbv))
         all_goals first
          | (exfalso
             subst hA
             simp only [sS,iNE,e1] at*
             have hq:decide ((k:Int)<(L.length:Int))=true:=by assumption
             have:=of_decide_eq_true hq
             omega)
          | (fail_if_success (refine Exists.intro ?_ ?_)
             subst hA
             simp only [sS,iNE,e1] at*
             first
              |done
              |exact ⟨by omega,by omega⟩
)
          |skip
         refine ⟨⟨{k:Nat // k<=L'.length∧shS (L'.take k)},fun b k=> [(6, .int .i64 (k.1:Nat))],fun b k=> [],fun k=>L'.length - k.1,true⟩,⟨⟨0,Nat.zero_le _,fun t ht=>by simp at ht⟩, ?_⟩, ?_⟩
         · cbv
           subst hA
           simp [-List.getD_eq_getElem?_getD,sS]
         · rintro ⟨k,hy⟩
           have hk:k<=L'.length:=hy.1
           have hS:shS (L'.take k):=hy.2
           rcases Nat.lt_or_ge k L'.length with hltk|hgek
           · obtain ⟨k',hk'⟩: ∃ k',k'=k+1:=⟨_,rfl⟩
             obtain ⟨t,ht⟩: ∃ t,t=L'.getD k T0:=⟨_,rfl⟩
             have hgt:L'.getD k { s:=0,r:= [],u:=0 } =t:=ht.symm
             have hyes:t.r.length<=300->shS (L'.take k'):=fun h=>by rw [hk'];exact Ae hS hltk (ht▸h)
             have hno: ¬t.r.length<=300->shW I O=false:=fun h=>Ad fun hq=>h ((hq i hlt).2.2 t (by rw [ht,<-hL'];exact iS hltk))
             cbv
             repeat' (first| (with_reducible first|exact vT|exact vD hA|exact vE hA|refine vA ?_ ?_) | (intro hc;cbv))
             all_goals first
              | (exfalso
                 subst hA
                 simp only [sS,iNE,e2] at*
                 have hq:decide ((k:Int)<(L'.length:Int))=false:=by assumption
                 have:=of_decide_eq_false hq
                 omega)
              | (fail_if_success (refine Exists.intro ?_ ?_)
                 subst hA
                 clear hyes
                 simp only [sS,iNE,e2,hgt] at*
                 first
                  |done
                  |exact ⟨by omega,by omega⟩
                  | (refine (hno fun e=> ?_).symm
                     rw [decide_eq_true e] at hc
                     cases hc)
)
              | (have hok:t.r.length<=300:=by
                  subst hA
                  clear hyes hno
                  simp only [sS,iNE,e2,hgt] at*
                  have:=eH hc
                  exact of_decide_eq_true this
                 refine ⟨⟨k',by omega,hyes hok⟩, ?_,show L'.length - k'<L'.length - k by omega⟩
                 cbv
                 subst hA
                 simp [-List.getD_eq_getElem?_getD,sS]
                 exact ce hk' (by omega))
           · have hke:k=L'.length:=by omega
             rw [hke,List.take_length] at hS
             have hs2:=hS
             cbv
             repeat' (first| (with_reducible first|exact vT|exact vD hA|exact vE hA|refine vA ?_ ?_) | (intro hc;cbv))
             all_goals first
              | (exfalso
                 subst hA
                 simp only [sS,iNE,e2] at*
                 have hq:decide ((k:Int)<(L'.length:Int))=true:=by assumption
                 have:=of_decide_eq_true hq
                 omega)
              | (fail_if_success (refine Exists.intro ?_ ?_)
                 subst hA
                 simp only [sS,iNE,e2] at*
                 first
                  |done
                  |exact ⟨by omega,by omega⟩
)
              |skip
             refine ⟨⟨(i',n'),by show i'<=64;omega,hnext hs1 hs2,hnn⟩, ?_,show 64 - i'<64 - i by omega⟩
             cbv
             subst hA
             simp [-List.getD_eq_getElem?_getD,sS,e1,e2]
             exact ⟨by rw [wq1];exact wq2,ce hi' (by omega)⟩
   · have hie:i=64:=by omega
     subst hie
     have hf:=OB hN
     cbv
     repeat' (first| (with_reducible first|exact vT|exact vD hA|exact vE hA|refine vA ?_ ?_) | (intro hc;cbv))
     all_goals first
      | (exfalso
         subst hA
         simp only [sS,iNE] at*
         have hq:decide ((64:Int)<64)=true:=by assumption
         have:=of_decide_eq_true hq
         omega)
      | (subst hA
         simp only [sS,hq,Int.ofNat_eq_natCast]
         exact hf.symm)
end Go.Vd
