/- Wheels: cancel. -/
import Derived.Test.YtckmnmcnelfkjaaGreatDoorVdWN
set_option linter.unusedVariables false
set_option linter.unusedSimpArgs false
set_option maxRecDepth 100000
set_option maxHeartbeats 8000000
namespace Go.Vd
open Go.Proofs
def otT (s:Int)(r:List UInt8)(t:Tm):Bool:= !decide (t.s=s∧t.r=r)
noncomputable def gq (n m:Int)(I O:Sl)(s:Int)(r:List UInt8):Int:=if wR n m I O=true then (if hkT (aS I O) s r=true then 0 else 5) else 1
noncomputable def fq (n m:Int)(I O:Sl)(s:Int)(r:List UInt8):Sl:=if gq n m I O s r=0∧fdT (aS I O) s r / 64=n / 64 then I.set (fdT (aS I O) s r % 64).toNat ((sl I (fdT (aS I O) s r % 64).toNat).filter (otT s r)) else I
noncomputable def ft (n m:Int)(I O:Sl)(s:Int)(r:List UInt8):Sl:=if gq n m I O s r=0∧ ¬fdT (aS I O) s r / 64=n / 64 then O.set (fdT (aS I O) s r / 64 % 64).toNat ((sl O (fdT (aS I O) s r / 64 % 64).toNat).filter (otT s r)) else O
theorem pD{n m s:Int}{I O:Sl}{r:List UInt8}(h: ¬gq n m I O s r=0):fq n m I O s r=I∧ft n m I O s r=O:=by
 unfold fq ft
 rw [if_neg (fun e=>h e.1),if_neg (fun e=>h e.1)]
 exact ⟨rfl,rfl⟩
theorem ET{n m s:Int}{I O:Sl}{r:List UInt8}(h:wR n m I O=false):gq n m I O s r=1:=by unfold gq;rw [h];rfl
theorem xe{n m s:Int}{I O:Sl}{r:List UInt8}(h:wR n m I O=true)(h1:hkT (aS I O) s r=false):gq n m I O s r=5:=by unfold gq;rw [if_pos h,h1];rfl
theorem L8{n m s:Int}{I O:Sl}{r:List UInt8}(h:wR n m I O=true)(h1:hkT (aS I O) s r=true):gq n m I O s r=0:=by unfold gq;rw [if_pos h,if_pos h1]
theorem HJ{n m s u:Int}{I O:Sl}{r:List UInt8}(h:gq n m I O s r=0)(hu:u=fdT (aS I O) s r)(h2:u / 64=n / 64):fq n m I O s r=I.set (u % 64).toNat ((sl I (u % 64).toNat).filter (otT s r))∧ft n m I O s r=O:=by
 subst hu
 unfold fq ft
 rw [if_pos ⟨h,h2⟩,if_neg (fun e=>e.2 h2)]
 exact ⟨rfl,rfl⟩
theorem C9{n m s u:Int}{I O:Sl}{r:List UInt8}(h:gq n m I O s r=0)(hu:u=fdT (aS I O) s r)(h2: ¬u / 64=n / 64):fq n m I O s r=I∧ft n m I O s r=O.set (u / 64 % 64).toNat ((sl O (u / 64 % 64).toNat).filter (otT s r)):=by
 subst hu
 unfold fq ft
 rw [if_neg (fun e=>h2 e.2),if_pos ⟨h,h2⟩]
 exact ⟨rfl,rfl⟩
theorem uh{s:Int}{r:List UInt8} : ∀ {L:List Tm},hkT L s r=true-> ∃ t∈L,t.s=s∧t.r=r∧t.u=fdT L s r
 | [],h=>by cases h
 |t::L,h=>by
  by_cases e:t.s=s∧t.r=r
  · exact ⟨t,List.mem_cons_self ..,e.1,e.2,by unfold fdT;rw [if_pos e]⟩
  · unfold hkT at h
    rw [List.any_cons,decide_eq_false e,Bool.false_or] at h
    obtain ⟨t',h1,h2⟩:=uh (L:=L) h
    exact ⟨t',List.mem_cons_of_mem _ h1,by unfold fdT;rw [if_neg e];exact h2⟩
theorem rf{p:Tm->Bool}{L:List Tm}{k:Nat}(h:k<L.length):(L.take (k+1)).filter p=if p (L.getD k T0)=true then (L.take k).filter p++ [L.getD k T0] else (L.take k).filter p:=by
 rw [<-bp (d:=T0) h,List.filter_append]
 split
 · rename_i hp;rw [List.filter_cons_of_pos hp];rfl
 · rename_i hp;rw [List.filter_cons_of_neg hp];simp
theorem n8{L:List Tm}(h:dx L){k:Nat}(hk:k<L.length): ∀ y∈L.take k,ltT y (L.getD k T0):=fun y hy=>by
 obtain ⟨i,hi,rfl⟩:=List.getElem_of_mem hy
 rw [List.length_take] at hi
 have:=HF h (show i<k by omega) hk
 rw [List.getD_eq_getElem?_getD,gEE (show i<L.length by omega)] at this
 rw [List.getElem_take]
 exact this
theorem pE{B B':Sl}{z:Nat}(hz:z<64)(hl:B.length=64)(h:B'=B.set z []):bf 64 1 (fun x _=>SV.slc (if x=z then 0 else (B.getD x []).length) 3 (aC eT T0 std fun _=>B.getD x [])) (fun x _=>SV.slc ((B'.getD x []).length) 3 (aC eT T0 std fun _=>B'.getD x [])):=fun x j hx hj=>by
 have e:B'.getD x [] =if x=z then [] else B.getD x [] :=by rw [h];exact gT hl hz _ x
 by_cases hxs:x=z
 · simp only [if_pos hxs] at e ⊢
   rw [e]
   exact .slc _ _ _ _ fun i j hi=>absurd hi (by simp)
 · simp only [if_neg hxs] at e ⊢
   rw [e]
   exact .refl _
theorem vq{B:Sl}{f:Nat->Nat->SV}(h:bf 64 1 f (aC eTs [] std fun _=>B)):bf 64 1 f (fun x _=>SV.slc ((B.getD x []).length) 3 (aC eT T0 std fun _=>B.getD x [])):=fun i j hi hj=>by
 obtain rfl:j=0:=by omega
 exact h i 0 hi hj
theorem set_set{B:Sl}{z:Nat}{L M:List Tm} :(B.set z L).set z M=B.set z M:=List.set_set ..
theorem Ac{B:Sl}{z:Nat}(hl:B.length=64)(hz:z<64)(L:List Tm):(B.set z L).getD z [] =L:=by
 have:=gT hl hz L z
 rw [if_pos rfl] at this
 exact this
attribute [local irreducible] vc
theorem Ad(n m s:Int)(I O:Sl)(r:List UInt8)(hQ:whQ I O)(hn:0<=n∧n<18446744073709551616):ak Tryz.prog gl0 95 [whS std n m I O,cY std s r] (.tup [whT std n m (fun _=>fq n m I O s r) (fun _=>ft n m I O s r), .int .i64 (std.ti fun _=>gq n m I O s r)]):=by
 refine ag (T:=az) (G:=gwn) (X:=xW) ah Ab ug Aa mixed Tryz.func95 (.none) (fun A=> [whS A n m I O,cY A s r]) (fun A=> .tup [whT A n m (fun _=>fq n m I O s r) (fun _=>ft n m I O s r), .int .i64 (A.ti fun _=>gq n m I O s r)]) fun A hA=> ?_
 cbv
 repeat' (first| (with_reducible first|exact vT|exact vD hA|exact vE hA|refine vA ?_ ?_) | (intro hc;cbv))
 refine ⟨ql A n m I O 4 4,⟨some ⟨0,by omega⟩, ?_⟩, ?_⟩
 · cbv
   subst hA
   simp [-List.getD_eq_getElem?_getD,sS,bq]
 · rintro (_| ⟨i,hi⟩)
   rotate_left 1
   · have h1:=fG hQ hi
     obtain ⟨i',hi'⟩: ∃ i',i'=i+1:=⟨_,rfl⟩
     cbv
     repeat' (first| (with_reducible first|exact vT|exact vD hA|exact vE hA|refine vA ?_ ?_) | (intro hc;cbv))
     all_goals first
      | (exfalso;subst hA;have hq:std.lt (Int.ofNat i) 64=false:=by assumption
         have: ¬((i:Nat):Int)<64:=of_decide_eq_false hq
         omega)
      | (fail_if_success (refine Exists.intro ?_ ?_)
         subst hA
         simp only [sS,iNE,fm,cg] at*
         first
          |done
          |exact ⟨by omega,by omega⟩
          |exact ⟨trivial,by unfold sl at h1;omega⟩
          |omega
          | (constructor<;>omega))
      |skip
     by_cases h:i'<64
     · refine ⟨some ⟨i',h⟩, ?_,show 64 - i'<64 - i by omega⟩
       cbv
       subst hA
       simp [-List.getD_eq_getElem?_getD,sS,bq,cg,jQ]
       exact ⟨ck hi' (by omega),hi'.symm⟩
     · refine ⟨none, ?_,show 0<64 - i by omega⟩
       cbv
       subst hA
       simp [-List.getD_eq_getElem?_getD,sS,bq,cg,jQ]
       exact ⟨by rw [w64 (by omega)];omega,by omega⟩
   · have rI:=qr hQ.1.1
     have rO:=qr hQ.1.2
     have lI:=mP hQ.1.1
     have lO:=mP hQ.1.2
     have hQ1:=hQ.2.1
     obtain ⟨u,hu⟩: ∃ u,u=fdT (aS I O) s r:=⟨_,rfl⟩
     have hfind:wR n m I O=true->hkT (aS I O) s r=true->(0<=u∧u<18446744073709551616)∧n<u:=fun hR hH=>by
      obtain ⟨t,h1,_,_,h4⟩:=uh hH
      rw [<-hu] at h4
      have h5:=hQ.2.2 t h1
      obtain ⟨i,hi,h6⟩:=fP.1 h1
      have hw:=(dJ.1 hR).2.1 i hi
      unfold tmQ at h5
      rcases h6 with h6|h6
      · have:=ub.1 (hw.1.1 t h6);omega
      · have:=uc.1 (hw.2.1 t h6);omega
     cbv
     repeat' (first| (with_reducible first|exact vT|exact vD hA|exact vE hA|refine vA ?_ ?_) | (intro hc;cbv))
     all_goals (try (exfalso;subst hA;simp only [sS] at hc;exact absurd hc (by decide)))
     all_goals first
      | (fail_if_success (refine Exists.intro ?_ ?_)
         subst hA
         simp only [sS,aD hQ.1.1,aD hQ.1.2,aj hQ.1.1,aj hQ.1.2,rI,rO,lI,lO,ew,qp,<-hu] at*
         first
          |done
          |exact ⟨⟨⟨trivial,trivial⟩,hQ⟩,hn.1⟩
          |exact ⟨⟨trivial,trivial⟩,hQ⟩
          | (have hR:(!wR n m I O)=true:=by assumption
             have h1:=ET (s:=s) (r:=r) (nR hR)
             have h2:=pD (by rw [h1];decide)
             first
              | (rw [h1];done)
              | (rw [h2.1];exact bV _)
              | (rw [h2.2];exact bV _))
          | (have hR:(!wR n m I O)=false:=by assumption
             have hR:=eM hR
             have hH:(!hkT (aS I O) s r)=true:=by assumption
             have h1:=xe hR (nR hH)
             have h2:=pD (by rw [h1];decide)
             first
              | (rw [h1];done)
              | (rw [h2.1];exact bV _)
              | (rw [h2.2];exact bV _))
          | (have hR:(!wR n m I O)=false:=by assumption
             have hH:(!hkT (aS I O) s r)=false:=by assumption
             have h3:=hfind (eM hR) (eM hH)
             first
              |exact ⟨hn.1,by omega,by omega⟩
              |exact ⟨by omega,by omega⟩)
)
      |skip
     all_goals (have hR:wR n m I O=true:=by
                 subst hA
                 have hR:std.not (std.tb fun _=>wR n m (ab eTs [] 1 64 (aC eTs [] std fun _=>I)) (ab eTs [] 1 64 (aC eTs [] std fun _=>O)))=false:=by assumption
                 simp only [sS,aj hQ.1.1,aj hQ.1.2] at hR
                 exact eM hR)
     all_goals (have hW:=dJ.1 hR)
     all_goals (have hH:hkT (aS I O) s r=true:=by
                 subst hA
                 clear hW hfind
                 simp only [sS,lI,lO] at*
                 exact eM (by assumption))
     · have hst:=True.intro
       obtain ⟨z,hz⟩: ∃ z,z=(u % 64).toNat:=⟨_,rfl⟩
       have hz64:z<64:=by omega
       obtain ⟨L,hL⟩: ∃ L,L=sl I z:=⟨_,rfl⟩
       have hLl:L.length<=100000:=by have:=fG hQ hz64;rw [hL];omega
       have hsk:eb true n z L:=by rw [hL];exact (hW.2.1 z hz64).1
       have hLu: ∀ t∈L,tmQ t∧fF true t.u=(z:Int):=fun t ht=>⟨hQ.2.2 t (fP.2 ⟨z,hz64, .inl (hL▸ht)⟩),by have:=ub.1 (hsk.1 t ht);show t.u % 64=(z:Int);omega⟩
       have hgL:I.getD (u % 64).toNat [] =L:=by rw [hL,hz];rfl
       have hgz:I.getD z [] =L:=hL.symm
       obtain ⟨B0,hB0⟩: ∃ B0,B0=I.set z [] :=⟨_,rfl⟩
       have hkn:=pE hz64 hQ.1.1 hB0
       refine ⟨⟨{p:Nat×Sl // p.1<=L.length∧p.2=I.set z ((L.take p.1).filter (otT s r))},fun b p=> [(12, .any),(13, .any),(14, .any),(15, .any),(16, .any),(17, .any),(18, .any),(19, .any),(20, .any),(21, .any),(22, .any),(23, .any),(24, .any),(25, .any),(26, .any),(27, .any),(28, .any),(29, .any),(30, .any),(31, .any),(7, .int .u64 u),(8, .any),(32,av eT T0 3 A fun _=>L),(33, .int .i64 (A.ofNat (A.tn fun _=>L.length))),(34, .int .i64 (p.1.1:Nat))],fun b p=> [(7,kdW A b 64 p.1.2),(0, .box 31 [.int .u64 n, .int .i64 m, .krun 7 b 64, .krun 9 10 64])],fun p=>L.length - p.1.1,true⟩,⟨⟨(0,B0),Nat.zero_le _,hB0⟩, ?_⟩, ?_⟩
       · cbv
         subst hA
         simp [-List.getD_eq_getElem?_getD,sS,bq,rI,rO,lI,lO,<-hu,ew,qp,hgL,<-hz,hgz]
         exact hkn
       · rintro ⟨⟨k,B'⟩,hx⟩
         have hk:k<=L.length:=hx.1
         have hB':B'=I.set z ((L.take k).filter (otT s r)):=hx.2
         obtain ⟨P,hP⟩: ∃ P,P=(L.take k).filter (otT s r):=⟨_,rfl⟩
         rw [<-hP] at hB'
         have hBl:B'.length=64:=by rw [hB',List.length_set];exact hQ.1.1
         have hBz:B'.getD z [] =P:=by rw [hB'];exact Ac hQ.1.1 hz64 P
         have hPl:P.length<=100000:=by rw [hP];refine Nat.le_trans (List.length_filter_le _ _) ?_;rw [List.length_take];omega
         rcases Nat.lt_or_ge k L.length with hlt|hge
         · obtain ⟨k',hk'⟩: ∃ k',k'=k+1:=⟨_,rfl⟩
           obtain ⟨t,ht⟩: ∃ t,t=L.getD k T0:=⟨_,rfl⟩
           have hgt:L.getD k { s:=0,r:= [],u:=0 } =t:=ht.symm
           obtain ⟨htQ,htz⟩:=hLu t (ht▸iU hlt)
           have hPa:dx P:=by rw [hP];exact (hsk.2.sublist (List.take_sublist _ _)).sublist List.filter_sublist
           have hbef: ∀ y∈P,ltT y t:=fun y hy=>by rw [ht];exact n8 hsk.2 hlt y (List.mem_filter.1 (hP▸hy)).1
           have hfs:=rf (p:=otT s r) hlt
           rw [<-hk',<-hP,<-ht] at hfs
           have hne: ∀ y∈sl B' z,¬y=t:=fun y hy e=>by
            have:y∈P:=by rw [<-hBz];exact hy
            have:=hbef y this
            rw [e] at this
            exact ip _ this
           have hpp:=ir P t
           have hil:=lK hbef
           obtain ⟨B2,hB2⟩: ∃ B2,B2=B'.set z (bS P t):=⟨_,rfl⟩
           have hB2':otT s r t=true->B2=I.set z ((L.take k').filter (otT s r)):=fun h=>by
            rw [hfs,if_pos h,hB2,hB',set_set,hil]
           have hBn:otT s r t=false->B'=I.set z ((L.take k').filter (otT s r)):=fun h=>by
            rw [hfs,h,hB'];rfl
           have hkp:=pC (s:=t.s) (u:=t.u) (r:=t.r) hz64 hBl hne
           have hsb:sl B' z=P:=hBz
           rw [hsb,hBz] at hkp
           have htn:(fF true t.u).toNat=z:=by rw [htz];rfl
           cbv
           repeat' (first| (with_reducible first|exact vT|exact vD hA|exact vE hA|refine vA ?_ ?_) | (intro hc;cbv))
           all_goals first
            | (exfalso
               subst hA
               have hq:std.lt (Int.ofNat k) (std.ofNat (std.tn fun _=>L.length))=false:=by assumption
               simp only [sS,Int.ofNat_eq_natCast] at hq
               have:=of_decide_eq_false hq
               omega)
            | (fail_if_success (refine Exists.intro ?_ ?_)
               subst hA
               clear hB2' hBn
               simp only [sS,iNE,hgt,htz,hBz,fm,cg,gI] at*
               first
                |done
                |exact htQ
                |exact ⟨by omega,by omega⟩
                |exact ⟨(show (0:Int)<=((z:Nat):Int) by omega),(show ((z:Nat):Int)<((64:Nat):Int) by omega)⟩
                |exact ⟨⟨trivial,by omega⟩,hPa⟩
                |exact ⟨⟨Int.natCast_nonneg _,Int.ofNat_le.2 hpp⟩,by omega⟩
)
            |skip
           · have hot:otT s r t=true:=by
              subst hA
              clear hB2' hBn
              simp only [sS,iNE,hgt] at hc
              unfold otT
              simpa using hc
             refine ⟨⟨(k',B2),by show k'<=L.length;omega,hB2' hot⟩, ?_,show L.length - k'<L.length - k by omega⟩
             cbv
             subst hA
             simp [-List.getD_eq_getElem?_getD,sS,hgt,htz,hBz,cg,gI,bq]
             refine ⟨ck hk' (by omega), ?_⟩
             rw [hB2]
             exact vq hkp
           · have hot:otT s r t=false:=by
              subst hA
              clear hB2' hBn
              simp only [sS,iNE,hgt] at hc
              unfold otT
              simpa using hc
             refine ⟨⟨(k',B'),by show k'<=L.length;omega,hBn hot⟩, ?_,show L.length - k'<L.length - k by omega⟩
             cbv
             subst hA
             simp [-List.getD_eq_getElem?_getD,sS,bq]
             exact ck hk' (by omega)
         · have hke:k=L.length:=by omega
           rw [hke,List.take_length] at hP
           have h0:=L8 hR hH
           have hf:=hfind hR hH
           have hci:= @HJ n m s u I O r h0 hu
           cbv
           repeat' (first| (with_reducible first|exact vT|exact vD hA|exact vE hA|refine vA ?_ ?_) | (intro hc;cbv))
           all_goals first
            | (exfalso
               subst hA
               have hq:std.lt (Int.ofNat k) (std.ofNat (std.tn fun _=>L.length))=true:=by assumption
               simp only [sS,Int.ofNat_eq_natCast] at hq
               have:=of_decide_eq_true hq
               omega)
            | (subst hA
               simp only [sS]
               done)
            |skip
           all_goals
            subst hA
            clear hfind hW
            simp only [sS,<-hu,lI,lO] at*
            have hq2:u / 64=n / 64:=by
             have hq:(u / 64 - n / 64==0)=true:=by assumption
             simp at hq;omega
            have h2:=hci hq2
            first
             |done
             |exact h0.symm
             | (rw [h2.2];exact bV _)
             | (rw [h2.1,<-hz,<-hL,<-hP,<-hB'];exact bV _)
     · have hst:=True.intro
       obtain ⟨z,hz⟩: ∃ z,z=(u / 64 % 64).toNat:=⟨_,rfl⟩
       have hz64:z<64:=by omega
       obtain ⟨L,hL⟩: ∃ L,L=sl O z:=⟨_,rfl⟩
       have hLl:L.length<=100000:=by have:=fG hQ hz64;rw [hL];omega
       have hsk:eb false n z L:=by rw [hL];exact (hW.2.1 z hz64).2
       have hLu: ∀ t∈L,tmQ t∧fF false t.u=(z:Int):=fun t ht=>⟨hQ.2.2 t (fP.2 ⟨z,hz64, .inr (hL▸ht)⟩),by have:=uc.1 (hsk.1 t ht);show t.u / 64 % 64=(z:Int);omega⟩
       have hgL:O.getD (u / 64 % 64).toNat [] =L:=by rw [hL,hz];rfl
       have hgz:O.getD z [] =L:=hL.symm
       obtain ⟨B0,hB0⟩: ∃ B0,B0=O.set z [] :=⟨_,rfl⟩
       have hkn:=pE hz64 hQ.1.2 hB0
       refine ⟨⟨{p:Nat×Sl // p.1<=L.length∧p.2=O.set z ((L.take p.1).filter (otT s r))},fun b p=> [(12, .any),(13, .any),(14, .any),(15, .any),(16, .any),(17, .any),(18, .any),(19, .any),(20, .any),(21, .any),(22, .any),(23, .any),(24, .any),(25, .any),(26, .any),(27, .any),(28, .any),(29, .any),(30, .any),(31, .any),(7, .int .u64 u),(8, .any),(32,av eT T0 3 A fun _=>L),(33, .int .i64 (A.ofNat (A.tn fun _=>L.length))),(34, .int .i64 (p.1.1:Nat))],fun b p=> [(9,kdW A b 64 p.1.2),(0, .box 31 [.int .u64 n, .int .i64 m, .krun 7 8 64, .krun 9 b 64])],fun p=>L.length - p.1.1,true⟩,⟨⟨(0,B0),Nat.zero_le _,hB0⟩, ?_⟩, ?_⟩
       · cbv
         subst hA
         simp [-List.getD_eq_getElem?_getD,sS,bq,rI,rO,lI,lO,<-hu,ew,qp,hgL,<-hz,hgz]
         exact hkn
       · rintro ⟨⟨k,B'⟩,hx⟩
         have hk:k<=L.length:=hx.1
         have hB':B'=O.set z ((L.take k).filter (otT s r)):=hx.2
         obtain ⟨P,hP⟩: ∃ P,P=(L.take k).filter (otT s r):=⟨_,rfl⟩
         rw [<-hP] at hB'
         have hBl:B'.length=64:=by rw [hB',List.length_set];exact hQ.1.2
         have hBz:B'.getD z [] =P:=by rw [hB'];exact Ac hQ.1.2 hz64 P
         have hPl:P.length<=100000:=by rw [hP];refine Nat.le_trans (List.length_filter_le _ _) ?_;rw [List.length_take];omega
         rcases Nat.lt_or_ge k L.length with hlt|hge
         · obtain ⟨k',hk'⟩: ∃ k',k'=k+1:=⟨_,rfl⟩
           obtain ⟨t,ht⟩: ∃ t,t=L.getD k T0:=⟨_,rfl⟩
           have hgt:L.getD k { s:=0,r:= [],u:=0 } =t:=ht.symm
           obtain ⟨htQ,htz⟩:=hLu t (ht▸iU hlt)
           have hPa:dx P:=by rw [hP];exact (hsk.2.sublist (List.take_sublist _ _)).sublist List.filter_sublist
           have hbef: ∀ y∈P,ltT y t:=fun y hy=>by rw [ht];exact n8 hsk.2 hlt y (List.mem_filter.1 (hP▸hy)).1
           have hfs:=rf (p:=otT s r) hlt
           rw [<-hk',<-hP,<-ht] at hfs
           have hne: ∀ y∈sl B' z,¬y=t:=fun y hy e=>by
            have:y∈P:=by rw [<-hBz];exact hy
            have:=hbef y this
            rw [e] at this
            exact ip _ this
           have hpp:=ir P t
           have hil:=lK hbef
           obtain ⟨B2,hB2⟩: ∃ B2,B2=B'.set z (bS P t):=⟨_,rfl⟩
           have hB2':otT s r t=true->B2=O.set z ((L.take k').filter (otT s r)):=fun h=>by
            rw [hfs,if_pos h,hB2,hB',set_set,hil]
           have hBn:otT s r t=false->B'=O.set z ((L.take k').filter (otT s r)):=fun h=>by
            rw [hfs,h,hB'];rfl
           have hkp:=pC (s:=t.s) (u:=t.u) (r:=t.r) hz64 hBl hne
           have hsb:sl B' z=P:=hBz
           rw [hsb,hBz] at hkp
           have htn:(fF false t.u).toNat=z:=by rw [htz];rfl
           cbv
           repeat' (first| (with_reducible first|exact vT|exact vD hA|exact vE hA|refine vA ?_ ?_) | (intro hc;cbv))
           all_goals first
            | (exfalso
               subst hA
               have hq:std.lt (Int.ofNat k) (std.ofNat (std.tn fun _=>L.length))=false:=by assumption
               simp only [sS,Int.ofNat_eq_natCast] at hq
               have:=of_decide_eq_false hq
               omega)
            | (fail_if_success (refine Exists.intro ?_ ?_)
               subst hA
               clear hB2' hBn
               simp only [sS,iNE,hgt,htz,hBz,fm,cg,gI] at*
               first
                |done
                |exact htQ
                |exact ⟨by omega,by omega⟩
                |exact ⟨(show (0:Int)<=((z:Nat):Int) by omega),(show ((z:Nat):Int)<((64:Nat):Int) by omega)⟩
                |exact ⟨⟨trivial,by omega⟩,hPa⟩
                |exact ⟨⟨Int.natCast_nonneg _,Int.ofNat_le.2 hpp⟩,by omega⟩
)
            |skip
           · have hot:otT s r t=true:=by
              subst hA
              clear hB2' hBn
              simp only [sS,iNE,hgt] at hc
              unfold otT
              simpa using hc
             refine ⟨⟨(k',B2),by show k'<=L.length;omega,hB2' hot⟩, ?_,show L.length - k'<L.length - k by omega⟩
             cbv
             subst hA
             simp [-List.getD_eq_getElem?_getD,sS,hgt,htz,hBz,cg,gI,bq]
             refine ⟨ck hk' (by omega), ?_⟩
             rw [hB2]
             exact vq hkp
           · have hot:otT s r t=false:=by
              subst hA
              clear hB2' hBn
              simp only [sS,iNE,hgt] at hc
              unfold otT
              simpa using hc
             refine ⟨⟨(k',B'),by show k'<=L.length;omega,hBn hot⟩, ?_,show L.length - k'<L.length - k by omega⟩
             cbv
             subst hA
             simp [-List.getD_eq_getElem?_getD,sS,bq]
             exact ck hk' (by omega)
         · have hke:k=L.length:=by omega
           rw [hke,List.take_length] at hP
           have h0:=L8 hR hH
           have hf:=hfind hR hH
           have hci:= @C9 n m s u I O r h0 hu
           cbv
           repeat' (first| (with_reducible first|exact vT|exact vD hA|exact vE hA|refine vA ?_ ?_) | (intro hc;cbv))
           all_goals first
            | (exfalso
               subst hA
               have hq:std.lt (Int.ofNat k) (std.ofNat (std.tn fun _=>L.length))=true:=by assumption
               simp only [sS,Int.ofNat_eq_natCast] at hq
               have:=of_decide_eq_true hq
               omega)
            | (subst hA
               simp only [sS]
               done)
            |skip
           all_goals
            subst hA
            clear hfind hW
            simp only [sS,<-hu,lI,lO] at*
            have hq2: ¬u / 64=n / 64:=by
             have hq:(u / 64 - n / 64==0)=false:=by assumption
             simp at hq;omega
            have h2:=hci hq2
            first
             |done
             |exact h0.symm
             | (rw [h2.1];exact bV _)
             | (rw [h2.2,<-hz,<-hL,<-hP,<-hB'];exact bV _)
end Go.Vd
set_option maxHeartbeats 4000000
namespace Go.Vd
open Go.Proofs
theorem Ow{n n':Int}(h:n / 64=n' / 64)(L:List Tm):bI n L=bI n' L∧bO n L=bO n' L:=by
 constructor
 · refine cr (bL _ _) (bL _ _) fun i hi=> ?_
   rw [cA hi,cA hi]
   congr 1
   funext t
   unfold inI
   rw [h]
 · refine cr (cd _ _) (cd _ _) fun i hi=> ?_
   rw [cM hi,cM hi]
   congr 1
   funext t
   unfold inO
   rw [h]
theorem L9(n n':Int):bI n [] =bI n' [] ∧bO n [] =bO n' [] :=by
 constructor
 · exact cr (bL _ _) (bL _ _) fun i hi=>by rw [zW,zW]
 · exact cr (cd _ _) (cd _ _) fun i hi=>by rw [HD,HD]
def laT (n:Int)(t:Tm):Bool:=decide (n<t.u)
def duT (n:Int)(t:Tm):Bool:=decide (t.u<=n)
theorem Ox{n n':Int}(h:n<=n')(L:List Tm):(L.filter (laT n)).filter (laT n')=L.filter (laT n'):=by
 rw [List.filter_filter]
 congr 1
 funext t
 unfold laT
 by_cases h1:n'<t.u
 · simp [h1,show n<t.u by omega]
 · simp [h1]
theorem QJ{n n':Int}{L:List Tm}(h:ic n L)(hn:n<=n'):ic n' (L.filter (laT n')):=by
 refine ⟨h.1.sublist List.filter_sublist,h.2.1.sublist List.filter_sublist,fun t ht=> ?_⟩
 have h1:=List.mem_filter.1 ht
 have h2:=h.2.2 t h1.1
 have h3:n'<t.u:=of_decide_eq_true h1.2
 unfold mh at*
 omega
theorem QK{n:Int}{L:List Tm}(h:ic n L)(h0:(n+1) % 64=0):bI n L=bI (n+1) [] :=by
 refine cr (bL _ _) (bL _ _) fun i hi=> ?_
 rw [zW,cA hi]
 refine fO fun t ht=> ?_
 have:=h.2.2 t ht
 unfold mh at this
 unfold inI
 rw [decide_eq_false_iff_not]
 omega
theorem QL{n:Int}{L:List Tm}(h:ic n L)(h0:(n+1) % 64=0){z:Nat}(hz:(z:Int)=(n+1) / 64 % 64):bI (n+1) (sl (bO n L) z)=bI (n+1) L:=by
 refine cr (bL _ _) (bL _ _) fun i hi=> ?_
 rw [cA hi,cA hi,cM (by omega),List.filter_filter]
 refine List.filter_congr fun t ht=> ?_
 have:=h.2.2 t ht
 unfold mh at this
 unfold inI inO
 rw [Bool.eq_iff_iff,bAE,decide_eq_true_eq,decide_eq_true_eq]
 omega
theorem QM{n:Int}{L:List Tm}(h:ic n L)(h0:(n+1) % 64=0){z:Nat}(hz:(z:Int)=(n+1) / 64 % 64):(bO n L).set z [] =bO (n+1) L:=by
 refine cr (by rw [List.length_set];exact cd _ _) (cd _ _) fun i hi=> ?_
 rw [gT (cd _ _) (by omega),cM hi,cM hi]
 split
 · rename_i e
   subst e
   refine (fO fun t ht=> ?_).symm
   have:=h.2.2 t ht
   unfold mh at this
   unfold inO
   rw [decide_eq_false_iff_not]
   omega
 · rename_i e
   refine List.filter_congr fun t ht=> ?_
   have:=h.2.2 t ht
   unfold mh at this
   unfold inO
   rw [decide_eq_decide]
   omega
def sk (n:Int)(L:List Tm):List Tm:=L.filter fun t=>decide (t.u=n)
theorem HK{n:Int}{L:List Tm}{z:Nat}(hz:(z:Int)=n % 64):sl (bI n L) z=sk n L:=by
 rw [cA (by omega)]
 unfold sk
 refine List.filter_congr fun t _=> ?_
 unfold inI
 rw [decide_eq_decide]
 omega
theorem R7{n:Int}{L:List Tm}(h: ∀ t∈L,n<=t.u){z:Nat}(hz:(z:Int)=n % 64):(bI n L).set z [] =bI n (L.filter (laT n))∧bO n L=bO n (L.filter (laT n)):=by
 constructor
 · refine cr (by rw [List.length_set];exact bL _ _) (bL _ _) fun i hi=> ?_
   rw [gT (bL _ _) (by omega),cA hi,cA hi,List.filter_filter]
   split
   · rename_i e
     subst e
     refine (fO fun t ht=> ?_).symm
     have:=h t ht
     unfold inI laT
     rw [Bool.and_eq_false_iff,decide_eq_false_iff_not,decide_eq_false_iff_not]
     omega
   · rename_i e
     refine List.filter_congr fun t ht=> ?_
     have:=h t ht
     unfold inI laT
     rw [Bool.eq_iff_iff,bAE,decide_eq_true_eq,decide_eq_true_eq]
     omega
 · refine cr (cd _ _) (cd _ _) fun i hi=> ?_
   rw [cM hi,cM hi,List.filter_filter]
   refine List.filter_congr fun t ht=> ?_
   have:=h t ht
   unfold inO laT
   rw [Bool.eq_iff_iff,bAE,decide_eq_true_eq,decide_eq_true_eq]
   omega
theorem Kz{n:Int}{L:List Tm}(h:dx L):L.filter (duT n)++sk (n+1) (L.filter (laT n))=L.filter (duT (n+1)):=by
 refine gn ?_ (h.sublist List.filter_sublist) fun x=> ?_
 · refine List.pairwise_append.2 ⟨h.sublist List.filter_sublist,(h.sublist List.filter_sublist).sublist List.filter_sublist,fun a ha b hb=> .inl ?_⟩
   have h1:a.u<=n:=of_decide_eq_true (List.mem_filter.1 ha).2
   have h2:b.u=n+1:=of_decide_eq_true (List.mem_filter.1 hb).2
   omega
 · unfold sk
   rw [List.mem_append,List.mem_filter,List.mem_filter,List.mem_filter,List.mem_filter]
   unfold duT laT
   simp only [decide_eq_true_eq]
   constructor
   · rintro (⟨h1,h2⟩ | ⟨⟨h1,h2⟩,h3⟩)
     · exact ⟨h1,by omega⟩
     · exact ⟨h1,by omega⟩
   · rintro ⟨h1,h2⟩
     rcases Int.lt_or_le n x.u with h3|h3
     · exact .inr ⟨⟨h1,h3⟩,by omega⟩
     · exact .inl ⟨h1,h3⟩
theorem ui(p:Tm->Bool): ∀ L:List Tm,(L.filter p).length+(L.filter fun t=> !p t).length=L.length
 | [] =>rfl
 |t::L=>by
  have:=ui p L
  cases hp:p t
  · rw [List.filter_cons_of_neg (by simp [hp]),List.filter_cons_of_pos (by simp [hp])];simp;omega
  · rw [List.filter_cons_of_pos hp,List.filter_cons_of_neg (by simp [hp])];simp;omega
theorem Oy{n:Int}{L:List Tm}(h: ∀ t∈L,n<=t.u):(sk n L).length+(L.filter (laT n)).length=L.length:=by
 rw [<-ui (fun t=>decide (t.u=n)) L]
 congr 2
 refine List.filter_congr fun t ht=> ?_
 have:=h t ht
 unfold laT
 rw [Bool.eq_iff_iff,Bool.not_eq_true',decide_eq_true_eq,decide_eq_false_iff_not]
 omega
noncomputable def dk (n m:Int)(I O:Sl)(k:Int):Int:=if wR n m I O=true then (if 18446744073709551615 - n<k then 10 else 0) else 1
noncomputable def ml (n m:Int)(I O:Sl)(k:Int):Int:=if dk n m I O k=0 then n+k else n
noncomputable def mm (n m:Int)(I O:Sl)(k:Int):Sl:=if dk n m I O k=0 then bI (n+k) ((bP I O).filter (laT (n+k))) else I
noncomputable def mn (n m:Int)(I O:Sl)(k:Int):Sl:=if dk n m I O k=0 then bO (n+k) ((bP I O).filter (laT (n+k))) else O
noncomputable def j8 (n m:Int)(I O:Sl)(k:Int):List Tm:=if dk n m I O k=0 then (bP I O).filter (duT (n+k)) else []
theorem Ae{n m k:Int}{I O:Sl}(h: ¬dk n m I O k=0):ml n m I O k=n∧mm n m I O k=I∧mn n m I O k=O∧j8 n m I O k= [] :=by
 unfold ml mm mn j8
 rw [if_neg h,if_neg h,if_neg h,if_neg h]
 exact ⟨rfl,rfl,rfl,rfl⟩
theorem vr{n m k:Int}{I O:Sl}(h:dk n m I O k=0):ml n m I O k=n+k∧mm n m I O k=bI (n+k) ((bP I O).filter (laT (n+k)))∧mn n m I O k=bO (n+k) ((bP I O).filter (laT (n+k)))∧j8 n m I O k=(bP I O).filter (duT (n+k)):=by
 unfold ml mm mn j8
 rw [if_pos h,if_pos h,if_pos h,if_pos h]
 exact ⟨rfl,rfl,rfl,rfl⟩
theorem Ma{n m k:Int}{I O:Sl}(h:wR n m I O=false):dk n m I O k=1:=by unfold dk;rw [h];rfl
theorem QN{n m k:Int}{I O:Sl}(h:wR n m I O=true)(h1:18446744073709551615 - n<k):dk n m I O k=10:=by unfold dk;rw [if_pos h,if_pos h1]
theorem EU{n m k:Int}{I O:Sl}(h:wR n m I O=true)(h1: ¬18446744073709551615 - n<k):dk n m I O k=0:=by unfold dk;rw [if_pos h,if_neg h1]
def onW (n k:Int)(L0:List Tm)(N T:Int)(L M:List Tm)(I O:Sl):Prop:=
 ((n<=N∧0<=T)∧N+T=n+k)∧(L=L0.filter (laT N)∧M=L0.filter (duT N))∧I=bI N L∧O=bO N L
theorem SK{n k:Int}{L0:List Tm}{I O:Sl}(h:ic n L0)(hk:0<=k)(hI:I=bI n L0)(hO:O=bO n L0):onW n k L0 n k L0 [] I O:=by
 have e1:L0.filter (laT n)=L0:=kC fun t ht=>decide_eq_true (h.2.2 t ht).1
 have e2:L0.filter (duT n)= [] :=fO fun t ht=>decide_eq_false (by have:=(h.2.2 t ht).1;omega)
 exact ⟨⟨⟨Int.le_refl _,hk⟩,rfl⟩,⟨e1.symm,e2.symm⟩,hI,hO⟩
theorem QO{n k N T:Int}{L0 L M:List Tm}{I O:Sl}(h:ic n L0)(ho:onW n k L0 N T L M I O):ic N L:=by rw [ho.2.1.1];exact QJ h ho.1.1.1
theorem Oz{n k N T:Int}{L0 L M:List Tm}{I O:Sl}(h:ic n L0)(ho:onW n k L0 N T L M I O)(hT:0<T):
 onW n k L0 (N+1) (T - 1) (L.filter (laT (N+1))) (M++sk (N+1) L) (bI (N+1) (L.filter (laT (N+1)))) (bO (N+1) (L.filter (laT (N+1)))):=by
 obtain ⟨⟨⟨h1,h2⟩,h3⟩,⟨h4,h5⟩,_,_⟩:=ho
 refine ⟨⟨⟨by omega,by omega⟩,by omega⟩,⟨?_, ?_⟩,rfl,rfl⟩
 · rw [h4,Ox (by omega)]
 · rw [h5,h4,Kz h.1]
theorem QP{n k N T:Int}{L0 L M:List Tm}{I O:Sl}(ho:onW n k L0 N T L M I O)(he:L= [] ∨T=0):I=bI (n+k) (L0.filter (laT (n+k)))∧O=bO (n+k) (L0.filter (laT (n+k)))∧M=L0.filter (duT (n+k)):=by
 obtain ⟨⟨⟨h1,h2⟩,h3⟩,⟨h4,h5⟩,h6,h7⟩:=ho
 rcases he with he|he
 · have e1: ∀ t∈L0,t.u<=N:=fun t ht=>by
    rcases Int.lt_or_le N t.u with h8|h8
    · have:t∈L0.filter (laT N):=List.mem_filter.2 ⟨ht,decide_eq_true h8⟩
      rw [<-h4,he] at this
      simp at this
    · exact h8
   have e2:L0.filter (laT (n+k))= [] :=fO fun t ht=>decide_eq_false (by have:=e1 t ht;omega)
   rw [e2,h6,h7,he,h5]
   refine ⟨(L9 _ _).1,(L9 _ _).2, ?_⟩
   rw [kC (p:=duT N) fun t ht=>decide_eq_true (e1 t ht),kC (p:=duT (n+k)) fun t ht=>decide_eq_true (by have:=e1 t ht;omega)]
 · obtain rfl:N=n+k:=by omega
   rw [h6,h7,h5,h4]
   exact ⟨rfl,rfl,rfl⟩
end Go.Vd
set_option maxHeartbeats 8000000
namespace Go.Vd
open Go.Proofs
noncomputable def xV:Ar->Xt:=fun A=> { xW A with go:= [86,75,145,147,146] }
theorem R8:XtOk Tryz.prog gl0 (xV std):=⟨ug.meth,ug.wt⟩
attribute [local irreducible] vc
theorem HL(n m k:Int)(I O:Sl)(hQ:whQ I O)(hn:0<=n∧n<18446744073709551616)(hk:0<=k∧k<18446744073709551616):ak Tryz.prog gl0 52 [whS std n m I O, .int .u64 k] (.tup [whT std (std.ti fun _=>ml n m I O k) m (fun _=>mm n m I O k) (fun _=>mn n m I O k),av eT T0 3 std fun _=>j8 n m I O k, .int .i64 (std.ti fun _=>dk n m I O k)]):=by
 refine ag (T:=az) (G:=gwn) (X:=xV) ah Ab R8 Aa mixed Tryz.func52 (.none) (fun A=> [whS A n m I O, .int .u64 k]) (fun A=> .tup [whT A (A.ti fun _=>ml n m I O k) m (fun _=>mm n m I O k) (fun _=>mn n m I O k),av eT T0 3 A fun _=>j8 n m I O k, .int .i64 (A.ti fun _=>dk n m I O k)]) fun A hA=> ?_
 cbv
 repeat' (first| (with_reducible first|exact vT|exact vD hA|exact vE hA|refine vA ?_ ?_) | (intro hc;cbv))
 refine ⟨ql A n m I O 4 4,⟨some ⟨0,by omega⟩, ?_⟩, ?_⟩
 · cbv
   subst hA
   simp [-List.getD_eq_getElem?_getD,sS,bq]
 · rintro (_| ⟨i,hi⟩)
   rotate_left 1
   · have h1:=fG hQ hi
     obtain ⟨i',hi'⟩: ∃ i',i'=i+1:=⟨_,rfl⟩
     cbv
     repeat' (first| (with_reducible first|exact vT|exact vD hA|exact vE hA|refine vA ?_ ?_) | (intro hc;cbv))
     all_goals first
      | (exfalso;subst hA;have hq:std.lt (Int.ofNat i) 64=false:=by assumption
         have: ¬((i:Nat):Int)<64:=of_decide_eq_false hq
         omega)
      | (fail_if_success (refine Exists.intro ?_ ?_)
         subst hA
         simp only [sS,iNE,fm,cg] at*
         first
          |done
          |exact ⟨by omega,by omega⟩
          |exact ⟨trivial,by unfold sl at h1;omega⟩
          |omega
          | (constructor<;>omega))
      |skip
     by_cases h:i'<64
     · refine ⟨some ⟨i',h⟩, ?_,show 64 - i'<64 - i by omega⟩
       cbv
       subst hA
       simp [-List.getD_eq_getElem?_getD,sS,bq,cg,jQ]
       exact ⟨ck hi' (by omega),hi'.symm⟩
     · refine ⟨none, ?_,show 0<64 - i by omega⟩
       cbv
       subst hA
       simp [-List.getD_eq_getElem?_getD,sS,bq,cg,jQ]
       exact ⟨by rw [w64 (by omega)];omega,by omega⟩
   · have rI:=qr hQ.1.1
     have rO:=qr hQ.1.2
     have lI:=mP hQ.1.1
     have lO:=mP hQ.1.2
     have hQ1:=hQ.2.1
     have q0:IntKind.u64.wrap (18446744073709551615 - n)=18446744073709551615 - n:=wU (by omega)
     cbv
     repeat' (first| (with_reducible first|exact vT|exact vD hA|exact vE hA|refine vA ?_ ?_) | (intro hc;cbv))
     all_goals (try (exfalso;subst hA;simp only [sS] at hc;exact absurd hc (by decide)))
     all_goals first
      | (fail_if_success (refine Exists.intro ?_ ?_)
         subst hA
         simp only [sS,aD hQ.1.1,aD hQ.1.2,aj hQ.1.1,aj hQ.1.2,rI,rO,lI,lO,q0] at*
         first
          |done
          |exact ⟨⟨⟨trivial,trivial⟩,hQ⟩,hn.1⟩
          | (have hR:(!wR n m I O)=true:=by assumption
             have h1:=Ma (k:=k) (nR hR)
             have h2:=Ae (by rw [h1];decide)
             first
              | (rw [h1];done)
              | (rw [h2.1];done)
              | (rw [h2.2.1];exact bV _)
              | (rw [h2.2.2.1];exact bV _)
              | (rw [h2.2.2.2];rfl)
              | (rw [h2.2.2.2];done))
          | (have hR:(!wR n m I O)=false:=by assumption
             have hK:decide (18446744073709551615 - n<k)=true:=by assumption
             have h1:=QN (eM hR) (of_decide_eq_true hK)
             have h2:=Ae (by rw [h1];decide)
             first
              | (rw [h1];done)
              | (rw [h2.1];done)
              | (rw [h2.2.1];exact bV _)
              | (rw [h2.2.2.1];exact bV _)
              | (rw [h2.2.2.2];rfl)
              | (rw [h2.2.2.2];done))
)
      |skip
     have hRK:wR n m I O=true∧ ¬18446744073709551615 - n<k:=by
      subst hA
      simp only [sS,aj hQ.1.1,aj hQ.1.2,q0] at*
      exact ⟨eM (by assumption),of_decide_eq_false hc⟩
     obtain ⟨hR,hK⟩:=hRK
     have hW:=dJ.1 hR
     refine ⟨⟨{p:Nat×List Tm // p.1<=64∧p.2=bB I O p.1},fun b p=> [(3, .own b),(5, .int .i64 (p.1.1:Nat))],fun b p=> [(b, .row 113 3 (A.tn fun _=>p.1.2.length) (aC eT T0 A fun _=>p.1.2))],fun p=>64 - p.1.1,true⟩,⟨⟨(0, []),Nat.zero_le _,rfl⟩, ?_⟩, ?_⟩
     · cbv
       subst hA
       simp [-List.getD_eq_getElem?_getD,sS,bq]
     · rintro ⟨⟨i,M⟩,hx⟩
       have hi:i<=64:=hx.1
       have hM:M=bB I O i:=hx.2
       rcases Nat.lt_or_ge i 64 with hlt|hge
       · have hb:=fG hQ hlt
         rw [<-hM] at hb
         obtain ⟨i',hi'⟩: ∃ i',i'=i+1:=⟨_,rfl⟩
         obtain ⟨L1,hL1⟩: ∃ L1,L1=sl I i:=⟨_,rfl⟩
         obtain ⟨L2,hL2⟩: ∃ L2,L2=sl O i:=⟨_,rfl⟩
         rw [<-hL1,<-hL2] at hb
         have e1:I.getD i [] =L1:=hL1.symm
         have e2:O.getD i [] =L2:=hL2.symm
         obtain ⟨M',hM'⟩: ∃ M',M'=M++(L1++L2):=⟨_,rfl⟩
         have hMM:M'=bB I O i':=by rw [hM',hi',hM,hL1,hL2];rfl
         cbv
         repeat' (first| (with_reducible first|exact vT|exact vD hA|exact vE hA|refine vA ?_ ?_) | (intro hc;cbv))
         all_goals (try (exfalso;subst hA;have hq:std.lt (Int.ofNat i) 64=false:=by assumption
                         have: ¬((i:Nat):Int)<64:=of_decide_eq_false hq
                         omega))
         all_goals first
          | (fail_if_success (refine Exists.intro ?_ ?_)
             subst hA
             simp only [sS,iNE,e1,e2] at*
             first
              |exact ⟨by omega,by omega⟩
              |omega)
          | (refine ⟨⟨(i',M'),by show i'<=64;omega,hMM⟩, ?_,show 64 - i'<64 - i by omega⟩
             cbv
             subst hA
             simp [-List.getD_eq_getElem?_getD,sS,e1,e2,bq]
             refine ⟨ck hi' (by omega), ?_, ?_⟩
             · rw [hM'];simp;omega
             · exact dg (((ay.lit M).cat (ay.lit L1)).cat (ay.lit L2)) (by rw [hM'];simp;omega) (by rw [hM',List.append_assoc]))
       · have hie:i=64:=by omega
         subst hie
         have hML:M=aS I O:=by rw [hM,<-fp]
         obtain ⟨L0,hL0,hcan,hI0,hO0,hlm,hok⟩:=zP hQ.1.1 hQ.1.2 hW
         have hlen0:M.length=L0.length:=by rw [hML,hL0];unfold bP;rw [jo]
         have hMl0:M.length<=100000:=by rw [hML];exact hQ.2.1
         have hL0l:L0.length<=100000:=by omega
         have hstart:=SK hcan hk.1 hI0 hO0
         have hL0T: ∀ t∈L0,tmQ t:=fun t ht=>hQ.2.2 t (gp.1 (by rw [hL0] at ht;exact ht))
         have hadv:=vr (EU hR hK)
         rw [<-hL0] at hadv
         cbv
         repeat' (first| (with_reducible first|exact vT|exact vD hA|exact vE hA|refine vA ?_ ?_) | (intro hc;cbv))
         all_goals (try (exfalso;subst hA;simp only [sS] at hc;exact absurd hc (by decide)))
         refine ⟨⟨{p:(Int×Int)×(List Tm×List Tm)×(Sl×Sl) // onW n k L0 p.1.1 p.1.2 p.2.1.1 p.2.1.2 p.2.2.1 p.2.2.2},fun b p=> [(11, .any),(12, .any),(13, .any),(14, .any),(15, .any),(16, .any),(17, .any),(18, .any),(19, .any),(20, .any),(21, .any),(22, .any),(23, .any),(24, .any),(25, .any),(26, .any),(1, .int .u64 p.1.1.2),(8, .own b),(9, .int .i64 (A.ofNat (A.tn fun _=>p.1.2.1.1.length))),(10, .any)],fun b p=> [(7,kdW A (b+1) 64 p.1.2.2.1),(9,kdW A (b+2) 64 p.1.2.2.2),(b, .row 113 3 (A.tn fun _=>p.1.2.1.2.length) (aC eT T0 A fun _=>p.1.2.1.2)),(0, .box 31 [.int .u64 p.1.1.1, .int .i64 m, .krun 7 (b+1) 64, .krun 9 (b+2) 64])],fun p=>p.1.1.2.toNat,true⟩,⟨⟨((n,k),(L0, []),(I,O)),hstart⟩, ?_⟩, ?_⟩
         · cbv
           subst hA
           simp [-List.getD_eq_getElem?_getD,sS,bq,hlen0]
         · rintro ⟨⟨⟨N,T⟩,⟨L,M2⟩,⟨I',O'⟩⟩,hx2⟩
           have hon:onW n k L0 N T L M2 I' O':=hx2
           have hcN:=QO hcan hon
           have hLsub: ∀ t∈L,t∈L0:=fun t ht=>by rw [hon.2.1.1] at ht;exact (List.mem_filter.1 ht).1
           have hLl:L.length<=100000:=by rw [hon.2.1.1];exact Nat.le_trans (List.length_filter_le _ _) hL0l
           have hM2l:M2.length<=100000:=by rw [hon.2.1.2];exact Nat.le_trans (List.length_filter_le _ _) hL0l
           have g1:=hon.1.1.1
           have g2:=hon.1.1.2
           have g3:=hon.1.2
           have hLn:L.length=0↔L= [] :=List.length_eq_zero_iff
           rcases Classical.em (L.length=0∨T=0) with he|he
           · have hend:=QP hon (by rw [<-hLn];exact he)
             have w0:IntKind.u64.wrap (N+T)=n+k:=by rw [g3];exact wU (by omega)
             have hcond:(bif ((L.length:Int)==0) then true else (T==0))=true:=by
              rcases he with he|he<;>simp [he]
             obtain ⟨E,hE⟩: ∃ E,E=n+k:=⟨_,rfl⟩
             rw [<-hE] at w0 hend hadv
             cbv
             repeat' (first| (with_reducible first|exact vT|exact vD hA|exact vE hA|refine vA ?_ ?_) | (intro hc;cbv))
             all_goals first
              | (exfalso
                 subst hA
                 have hq:std.ite (std.eq (std.ofNat (std.tn fun _=>L.length)) 0) true (std.eq T 0)=false:=by assumption
                 have hq2:(bif ((L.length:Int)==0) then true else (T==0))=false:=hq
                 rw [hcond] at hq2
                 cases hq2)
              |skip
             all_goals
              subst hA
              clear hc
              simp only [sS,w0]
              first
               |done
               |exact fun h=>h
               |exact fun h=>⟨h,h⟩
               | (intro h;rw [h];rfl)
               |exact hadv.1.symm
               | (rw [hadv.2.1,<-hend.1];exact bV _)
               | (rw [hadv.2.2.1,<-hend.2.1];exact bV _)
               | (rw [hadv.2.2.2,<-hend.2.2];done)
               | (rw [hadv.2.2.2,<-hend.2.2];exact bK)
               |exact (EU hR hK).symm
           · have hL0: ¬L.length=0:=fun h=>he (.inl h)
             have hT0: ¬T=0:=fun h=>he (.inr h)
             have hcond:(bif ((L.length:Int)==0) then true else (T==0))=false:=by
              rw [show ((L.length:Int)==0)=false by simp;exact fun h=>hL0 (by rw [h];rfl),show (T==0)=false by simp;exact hT0]
              rfl
             obtain ⟨N',hN'⟩: ∃ N',N'=N+1:=⟨_,rfl⟩
             obtain ⟨T',hT'⟩: ∃ T',T'=T - 1:=⟨_,rfl⟩
             have hN'u:0<=N'∧N'<18446744073709551616:=by omega
             have w1:IntKind.u64.wrap (N+1)=N':=by rw [<-hN'];exact wU hN'u
             have w2:IntKind.u64.wrap (T - 1)=T':=by rw [<-hT'];exact wU (by omega)
             have r1:N'.tmod 64=N' % 64:=Int.tmod_eq_emod_of_nonneg hN'u.1
             obtain ⟨D,hD⟩: ∃ D,D=sk N' L:=⟨_,rfl⟩
             obtain ⟨L',hL'⟩: ∃ L',L'=L.filter (laT N'):=⟨_,rfl⟩
             obtain ⟨M',hM'⟩: ∃ M',M'=M2++D:=⟨_,rfl⟩
             obtain ⟨I2,hI2⟩: ∃ I2,I2=bI N' L':=⟨_,rfl⟩
             obtain ⟨O2,hO2⟩: ∃ O2,O2=bO N' L':=⟨_,rfl⟩
             have hnext:onW n k L0 N' T' L' M' I2 O2:=by
              have:=Oz hcan hon (by omega)
              rw [<-hN',<-hT',<-hD,<-hL',<-hM',<-hI2,<-hO2] at this
              exact this
             have hge1: ∀ t∈L,N'<=t.u:=fun t ht=>by have:=(hcN.2.2 t ht).1;omega
             obtain ⟨zi,hzI⟩: ∃ zi:Nat,(zi:Int)=N' % 64:=⟨(N' % 64).toNat,by omega⟩
             have hzi64:zi<64:=by omega
             have hsl:(N' % 64).toNat=zi:=by omega
             have hdI:=R7 hge1 hzI
             have hdl:=Oy hge1
             rw [<-hD,<-hL'] at hdl
             have hMl':M2.length+D.length=M'.length:=by rw [hM',List.length_append]
             have w3:IntKind.i64.wrap ((L.length:Int) - (D.length:Int))=(L'.length:Int):=by rw [w64 (by omega)];omega
             rcases Classical.em (N' % 64=0) with ht0|ht0
             · have hturn0:(N+1) % 64=0:=by omega
               obtain ⟨zo,hzO⟩: ∃ zo:Nat,(zo:Int)=N' / 64 % 64:=⟨(N' / 64 % 64).toNat,by omega⟩
               have hzo64:zo<64:=by omega
               have hslo:(N' / 64 % 64).toNat=zo:=by omega
               have hslo2:fF false N'=(zo:Int):=hzO.symm
               obtain ⟨K,hK2⟩: ∃ K,K=sl O' zo:=⟨_,rfl⟩
               obtain ⟨O1,hO1⟩: ∃ O1,O1=O'.set zo [] :=⟨_,rfl⟩
               have hgK:O'.getD zo [] =K:=hK2.symm
               have hO1e:O1=bO N' L:=by rw [hO1,hon.2.2.2,hN'];exact QM hcN hturn0 (by rw [<-hN'];exact hzO)
               have hKe:bI N' K=bI N' L:=by rw [hK2,hon.2.2.2,hN'];exact QL hcN hturn0 (by rw [<-hN'];exact hzO)
               have hI0':I'=bI N' [] :=by rw [hon.2.2.1,hN'];exact QK hcN hturn0
               have hKf:K=L.filter (inO N zo):=by rw [hK2,hon.2.2.2];exact cM hzo64
               have hKa:dx K:=by rw [hKf];exact hcN.1.sublist List.filter_sublist
               have hKl:K.length<=100000:=by rw [hKf];exact Nat.le_trans (List.length_filter_le _ _) hLl
               have hKt: ∀ t∈K,tmQ t∧t.u / 64=N' / 64:=fun t ht=>by
                rw [hKf] at ht
                have h1:=List.mem_filter.1 ht
                have h2:=hcN.2.2 t h1.1
                have h3: ¬t.u / 64=N / 64∧t.u / 64 % 64=(zo:Int):=of_decide_eq_true h1.2
                unfold mh at h2
                exact ⟨hL0T t (hLsub t h1.1),by omega⟩
               have hOl:O'.length=64:=by rw [hon.2.2.2];exact cd _ _
               have hknO:=pE hzo64 hOl hO1
               cbv
               repeat' (first| (with_reducible first|exact vT|exact vD hA|exact vE hA|refine vA ?_ ?_) | (intro hc;cbv))
               all_goals first
                | (exfalso
                   subst hA
                   clear hnext
                   simp only [sS,iNE,w1,w2,r1,ew,hsl,hslo2,hgK] at*
                   first
                    | (have hq:(N' % 64==0)=false:=by assumption
                       simp at hq
                       omega)
                    | (have hq:(bif ((L.length:Int)==0) then true else (T==0))=true:=by assumption
                       rw [hcond] at hq
                       cases hq))
                | (fail_if_success (refine Exists.intro ?_ ?_)
                   subst hA
                   clear hnext
                   simp only [sS,iNE,w1,w2,r1,ew,hslo2] at*
                   first
                    |done
                    |decide
                    |exact fun h=>h
                    |exact fun h=>⟨h,h⟩
                    | (intro h;rw [h];rfl)
                    |exact hN'u
                    |exact ⟨(show (0:Int)<=((zo:Nat):Int) by omega),(show ((zo:Nat):Int)<((64:Nat):Int) by omega)⟩
)
                |skip
               refine ⟨⟨{p:Nat×Sl // p.1<=K.length∧p.2=bI N' (K.take p.1)},fun b p=> [(27,av eT T0 3 A fun _=>K),(28, .int .i64 (A.ofNat (A.tn fun _=>K.length))),(29, .int .i64 (p.1.1:Nat))],fun b p=> [(7,kdW A b 64 p.1.2),(9,kdW A (b+1) 64 O1),(0, .box 31 [.int .u64 N', .int .i64 m, .krun 7 b 64, .krun 9 (b+1) 64])],fun p=>K.length - p.1.1,true⟩,⟨⟨(0,I'),Nat.zero_le _,by rw [List.take_zero];exact hI0'⟩, ?_⟩, ?_⟩
               · cbv
                 subst hA
                 simp [-List.getD_eq_getElem?_getD,sS,bq,w1,hslo2,hgK]
                 exact hknO
               · rintro ⟨⟨j,J⟩,hx3⟩
                 have hj:j<=K.length:=hx3.1
                 have hJ:J=bI N' (K.take j):=hx3.2
                 have hJl:J.length=64:=by rw [hJ];exact bL _ _
                 rcases Nat.lt_or_ge j K.length with hlt|hge
                 · obtain ⟨j',hj'⟩: ∃ j',j'=j+1:=⟨_,rfl⟩
                   obtain ⟨t,ht⟩: ∃ t,t=K.getD j T0:=⟨_,rfl⟩
                   have hgt:K.getD j { s:=0,r:= [],u:=0 } =t:=ht.symm
                   obtain ⟨htQ,htu⟩:=hKt t (ht▸iU hlt)
                   obtain ⟨z,hz⟩: ∃ z:Nat,(z:Int)=t.u % 64:=⟨(t.u % 64).toNat,by omega⟩
                   have hz64:z<64:=by omega
                   have htz:fF true t.u=(z:Int):=hz.symm
                   obtain ⟨P,hP⟩: ∃ P,P=sl J z:=⟨_,rfl⟩
                   have hJz:J.getD z [] =P:=hP.symm
                   have hPf:P=(K.take j).filter (inI N' z):=by rw [hP,hJ];exact cA hz64
                   have hPl:P.length<=100000:=by rw [hPf];refine Nat.le_trans (List.length_filter_le _ _) ?_;rw [List.length_take];omega
                   have hPa:dx P:=by rw [hPf];exact (hKa.sublist (List.take_sublist _ _)).sublist List.filter_sublist
                   have hbef: ∀ y∈P,ltT y t:=fun y hy=>by rw [ht];exact n8 hKa hlt y (List.mem_filter.1 (hPf▸hy)).1
                   have hne: ∀ y∈sl J z,¬y=t:=fun y hy e=>by
                    have:=hbef y (by rw [hP];exact hy)
                    rw [e] at this
                    exact ip _ this
                   have hpp:=ir P t
                   obtain ⟨J2,hJ2⟩: ∃ J2,J2=J.set z (bS P t):=⟨_,rfl⟩
                   have hJ3:J2=bI N' (K.take j'):=by
                    rw [hj',<-bp (d:=T0) hlt,<-ht,(Om htu hz).1,<-hJ,<-hP,hJ2,lK hbef]
                   have hkp:=pC (s:=t.s) (u:=t.u) (r:=t.r) hz64 hJl hne
                   have hsb:sl J z=P:=hJz
                   rw [hsb,hJz] at hkp
                   cbv
                   repeat' (first| (with_reducible first|exact vT|exact vD hA|exact vE hA|refine vA ?_ ?_) | (intro hc;cbv))
                   all_goals first
                    | (exfalso
                       subst hA
                       clear hnext
                       have hq:std.lt (Int.ofNat j) (std.ofNat (std.tn fun _=>K.length))=false:=by assumption
                       simp only [sS,Int.ofNat_eq_natCast] at hq
                       have:=of_decide_eq_false hq
                       omega)
                    | (fail_if_success (refine Exists.intro ?_ ?_)
                       subst hA
                       clear hnext
                       simp only [sS,iNE,hgt,htz,hJz,fm,cg,gI] at*
                       first
                        |done
                        |exact htQ
                        |exact ⟨by omega,by omega⟩
                        |exact ⟨(show (0:Int)<=((z:Nat):Int) by omega),(show ((z:Nat):Int)<((64:Nat):Int) by omega)⟩
                        |exact ⟨⟨trivial,by omega⟩,hPa⟩
                        |exact ⟨⟨Int.natCast_nonneg _,Int.ofNat_le.2 hpp⟩,by omega⟩
)
                    |skip
                   refine ⟨⟨(j',J2),by show j'<=K.length;omega,hJ3⟩, ?_,show K.length - j'<K.length - j by omega⟩
                   cbv
                   subst hA
                   simp [-List.getD_eq_getElem?_getD,sS,hgt,htz,hJz,cg,gI,bq]
                   refine ⟨ck hj' (by omega), ?_⟩
                   rw [hJ2]
                   exact vq hkp
                 · have hje:j=K.length:=by omega
                   rw [hje,List.take_length,hKe] at hJ
                   have hIl:=hJl
                   have hDz:J.getD zi [] =D:=by rw [hJ,hD];exact HK hzI
                   have hset:I2=J.set zi [] :=by rw [hJ,hI2,hL'];exact hdI.1.symm
                   have hOO:O1=O2:=by rw [hO1e,hO2,hL'];exact hdI.2
                   have hkn:=pE hzi64 hIl hset
                   have hkO:True:=True.intro
                   cbv
                   repeat' (first| (with_reducible first|exact vT|exact vD hA|exact vE hA|refine vA ?_ ?_) | (intro hc;cbv))
                   all_goals first
                    | (exfalso
                       subst hA
                       clear hnext
                       simp only [sS,iNE,w1,w2,r1,ew,hsl,hDz] at*
                       first
                        | (have hq:decide ((j:Int)<(K.length:Int))=true:=by assumption
                           have:=of_decide_eq_true hq
                           omega))
                    | (fail_if_success (refine Exists.intro ?_ ?_)
                       subst hA
                       clear hnext
                       simp only [sS,iNE,w1,w2,r1,ew,hsl,hDz,hzI] at*
                       first
                        |done
                        |decide
                        |exact fun h=>h
                        |exact fun h=>⟨h,h⟩
                        | (intro h;rw [h];rfl)
                        |exact hN'u
                        |exact ⟨by omega,by omega⟩
                        |exact ⟨(show (0:Int)<=((zi:Nat):Int) by omega),(show ((zi:Nat):Int)<((64:Nat):Int) by omega)⟩
)
                    |skip
                   refine ⟨⟨((N',T'),(L',M'),(I2,O2)),hnext⟩, ?_,show T'.toNat<T.toNat by omega⟩
                   cbv
                   subst hA
                   simp [-List.getD_eq_getElem?_getD,sS,w1,w2,ew,hsl,hzI,hDz,bq,hOO]
                   repeat' (with_reducible refine And.intro ?_ ?_)
                   all_goals first
                    |exact w3
                    |exact hkn
                    |exact hMl'
                    |exact hMl'.symm
                    |exact dg ((ay.lit M2).cat (ay.lit D)) hMl'.symm hM'.symm
                    |exact dg ((ay.lit M2).cat (ay.lit D)) rfl hM'.symm
             · have hsame:=Ow (n:=N) (n':=N') (by omega) L
               have hIe:I'=bI N' L:=by rw [hon.2.2.1];exact hsame.1
               have hOe:O'=bO N' L:=by rw [hon.2.2.2];exact hsame.2
               have hIl:I'.length=64:=by rw [hIe];exact bL _ _
               have hDz:I'.getD zi [] =D:=by rw [hIe,hD];exact HK hzI
               have hset:I2=I'.set zi [] :=by rw [hIe,hI2,hL'];exact hdI.1.symm
               have hOO:O'=O2:=by rw [hOe,hO2,hL'];exact hdI.2
               have hkn:=pE hzi64 hIl hset
               have hkO:True:=True.intro
               cbv
               repeat' (first| (with_reducible first|exact vT|exact vD hA|exact vE hA|refine vA ?_ ?_) | (intro hc;cbv))
               all_goals first
                | (exfalso
                   subst hA
                   clear hnext
                   simp only [sS,iNE,w1,w2,r1,ew,hsl,hDz] at*
                   first
                    | (have hq:(N' % 64==0)=true:=by assumption
                       simp at hq
                       omega)
                    | (have hq:(bif ((L.length:Int)==0) then true else (T==0))=true:=by assumption
                       rw [hcond] at hq
                       cases hq))
                | (fail_if_success (refine Exists.intro ?_ ?_)
                   subst hA
                   clear hnext
                   simp only [sS,iNE,w1,w2,r1,ew,hsl,hDz,hzI] at*
                   first
                    |done
                    |decide
                    |exact fun h=>h
                    |exact fun h=>⟨h,h⟩
                    | (intro h;rw [h];rfl)
                    |exact hN'u
                    |exact ⟨by omega,by omega⟩
                    |exact ⟨(show (0:Int)<=((zi:Nat):Int) by omega),(show ((zi:Nat):Int)<((64:Nat):Int) by omega)⟩
)
                |skip
               refine ⟨⟨((N',T'),(L',M'),(I2,O2)),hnext⟩, ?_,show T'.toNat<T.toNat by omega⟩
               cbv
               subst hA
               simp [-List.getD_eq_getElem?_getD,sS,w1,w2,ew,hsl,hzI,hDz,bq,hOO]
               repeat' (with_reducible refine And.intro ?_ ?_)
               all_goals first
                |exact w3
                |exact hkn
                |exact hMl'
                |exact hMl'.symm
                |exact dg ((ay.lit M2).cat (ay.lit D)) hMl'.symm hM'.symm
                |exact dg ((ay.lit M2).cat (ay.lit D)) rfl hM'.symm
end Go.Vd
namespace Go.Vd
open Go.Proofs
theorem vt{n m s u:Int}{I O:Sl}{r:List UInt8}(hI:I.length=64)(hO:O.length=64)(h:dz n m I O s r u=0)(hu:0<=u):bI n (bS (bP I O) ⟨s,r,u⟩)=fV n m I O s r u∧bO n (bS (bP I O) ⟨s,r,u⟩)=fW n m I O s r u:=by
 have hR:wR n m I O=true:=by
  cases hR:wR n m I O
  · rw [EQ hR] at h;cases h
  · rfl
 have hH:hkT (aS I O) s r=false:=by
  cases hH:hkT (aS I O) s r
  · rfl
  · rw [ER hR hH] at h;cases h
 obtain ⟨hc,e1,e2,_⟩:=vl hI hO (dJ.1 hR)
 have hne: ∀ x∈bP I O,¬x=⟨s,r,u⟩:=fun x hx=>mN ((ud (t:=⟨s,r,u⟩)).1 hH x (gp.1 hx))
 by_cases hq:u / 64=n / 64
 · obtain ⟨z,hz⟩: ∃ z:Nat,(z:Int)=u % 64:=⟨(u % 64).toNat,by omega⟩
   have h1:=Qx (t:=⟨s,r,u⟩) hc.1 hne hq hz
   have h2:=HH h hq
   rw [h1.1,h1.2,h2.1,h2.2,<-e1,<-e2,show (u % 64).toNat=z by omega]
   exact ⟨rfl,rfl⟩
 · obtain ⟨z,hz⟩: ∃ z:Nat,(z:Int)=u / 64 % 64:=⟨(u / 64 % 64).toNat,by omega⟩
   have h1:=Qy (t:=⟨s,r,u⟩) hc.1 hne hq hz
   have h2:=C8 h hq
   rw [h1.1,h1.2,h2.1,h2.2,<-e1,<-e2,show (u / 64 % 64).toNat=z by omega]
   exact ⟨rfl,rfl⟩
attribute [local irreducible] vc
end Go.Vd
namespace Go.Vd
open Go.Proofs
theorem QQ{L:List Tm}(h:cB L){x t:Tm}(hx:x∈L)(ht:t∈L)(e1:x.s=t.s)(e2:x.r=t.r):x=t:=by
 obtain ⟨i,hi,rfl⟩:=List.getElem_of_mem hx
 obtain ⟨j,hj,rfl⟩:=List.getElem_of_mem ht
 unfold cB at h
 rw [List.pairwise_iff_getElem] at h
 rcases Nat.lt_trichotomy i j with h6|h6|h6
 · exact absurd ⟨e1,e2⟩ (h i j hi hj h6)
 · subst h6;rfl
 · exact absurd ⟨e1.symm,e2.symm⟩ (h j i hj hi h6)
theorem R9{s:Int}{r:List UInt8}{x:Tm}(h:otT s r x=false):x.s=s∧x.r=r:=by
 unfold otT at h
 simpa using h
theorem qs{L:List Tm}(hu:cB L){t:Tm}(ht:t∈L){p:Tm->Bool}(hp:p t=false):(L.filter (otT t.s t.r)).filter p=L.filter p:=by
 rw [List.filter_filter]
 refine List.filter_congr fun x hx=> ?_
 cases ho:otT t.s t.r x
 · have:=R9 ho
   rw [QQ hu hx ht this.1 this.2,hp]
   rfl
 · rw [Bool.and_true]
theorem Af{L:List Tm}(p q:Tm->Bool):(L.filter p).filter q=(L.filter q).filter p:=by
 rw [List.filter_filter,List.filter_filter]
 congr 1
 funext x
 exact Bool.and_comm ..
theorem Sa{n:Int}{L:List Tm}(hu:cB L){t:Tm}(ht:t∈L)(hq:t.u / 64=n / 64){z:Nat}(hz:(z:Int)=t.u % 64):bI n (L.filter (otT t.s t.r))=(bI n L).set z ((sl (bI n L) z).filter (otT t.s t.r))∧bO n (L.filter (otT t.s t.r))=bO n L:=by
 constructor
 · refine cr (bL _ _) (by rw [List.length_set];exact bL _ _) fun i hi=> ?_
   rw [cA hi,gT (bL _ _) (by omega),cA (by omega),cA hi]
   split
   · rename_i e;subst e;exact Af _ _
   · rename_i e;exact qs hu ht (by unfold inI;rw [decide_eq_false_iff_not];omega)
 · refine cr (cd _ _) (cd _ _) fun i hi=> ?_
   rw [cM hi,cM hi]
   exact qs hu ht (by unfold inO;rw [decide_eq_false_iff_not];omega)
theorem Sb{n:Int}{L:List Tm}(hu:cB L){t:Tm}(ht:t∈L)(hq: ¬t.u / 64=n / 64){z:Nat}(hz:(z:Int)=t.u / 64 % 64):bO n (L.filter (otT t.s t.r))=(bO n L).set z ((sl (bO n L) z).filter (otT t.s t.r))∧bI n (L.filter (otT t.s t.r))=bI n L:=by
 constructor
 · refine cr (cd _ _) (by rw [List.length_set];exact cd _ _) fun i hi=> ?_
   rw [cM hi,gT (cd _ _) (by omega),cM (by omega),cM hi]
   split
   · rename_i e;subst e;exact Af _ _
   · rename_i e;exact qs hu ht (by unfold inO;rw [decide_eq_false_iff_not];omega)
 · refine cr (bL _ _) (bL _ _) fun i hi=> ?_
   rw [cA hi,cA hi]
   exact qs hu ht (by unfold inI;rw [decide_eq_false_iff_not];omega)
theorem OA{n m s:Int}{I O:Sl}{r:List UInt8}(hI:I.length=64)(hO:O.length=64)(hn:0<=n)(h:gq n m I O s r=0):bI n ((bP I O).filter (otT s r))=fq n m I O s r∧bO n ((bP I O).filter (otT s r))=ft n m I O s r:=by
 have hR:wR n m I O=true:=by
  cases hR:wR n m I O
  · rw [ET hR] at h;cases h
  · rfl
 have hH:hkT (aS I O) s r=true:=by
  cases hH:hkT (aS I O) s r
  · rw [xe hR hH] at h;cases h
  · rfl
 obtain ⟨hc,e1,e2,_⟩:=vl hI hO (dJ.1 hR)
 obtain ⟨t,h1,rfl,rfl,h4⟩:=uh hH
 have ht:t∈bP I O:=gp.2 h1
 have htu:=(hc.2.2 t ht).1
 by_cases hq:t.u / 64=n / 64
 · obtain ⟨z,hz⟩: ∃ z:Nat,(z:Int)=t.u % 64:=⟨(t.u % 64).toNat,by omega⟩
   have g1:=Sa hc.2.1 ht hq hz
   have g2:=HJ h h4 hq
   rw [g1.1,g1.2,g2.1,g2.2,<-e1,<-e2,show (t.u % 64).toNat=z by omega]
   exact ⟨rfl,rfl⟩
 · obtain ⟨z,hz⟩: ∃ z:Nat,(z:Int)=t.u / 64 % 64:=⟨(t.u / 64 % 64).toNat,by omega⟩
   have g1:=Sb hc.2.1 ht hq hz
   have g2:=C9 h h4 hq
   rw [g1.1,g1.2,g2.1,g2.2,<-e1,<-e2,show (t.u / 64 % 64).toNat=z by omega]
   exact ⟨rfl,rfl⟩
attribute [local irreducible] vc
end Go.Vd
namespace Go.Vd
open Go.Proofs
attribute [local irreducible] vc
end Go.Vd
namespace Go.Vd
open Go.Proofs
def shS (L:List Tm):Prop:= ∀ t∈L,t.r.length<=300
def shN (I O:Sl)(k:Nat):Prop:= ∀ i,i<k->((sl I i).length<=60∧(sl O i).length<=60)∧shS (sl I i)∧shS (sl O i)
def shQ (I O:Sl):Prop:=shN I O 64∧(aS I O).length<=300
open Classical in
noncomputable def shW (I O:Sl):Bool:=decide (shQ I O)
theorem vu{I O:Sl} :shW I O=true↔shQ I O:=by unfold shW;exact @decide_eq_true_iff _ (Classical.propDecidable _)
theorem Ag{I O:Sl}(h: ¬shN I O 64):shW I O=false:=by
 cases hb:shW I O
 · rfl
 · exact absurd (vu.1 hb).1 h
theorem OB{I O:Sl}(h:shN I O 64):shW I O=decide (((bB I O 64).length:Int)<=300):=by
 rw [Bool.eq_iff_iff,vu,decide_eq_true_eq,<-fp]
 constructor
 · intro hq;have:=hq.2;omega
 · intro hq;exact ⟨h,by omega⟩
theorem Ah{L:List Tm}{k:Nat}(h:shS (L.take k))(hk:k<L.length)(ht:(L.getD k T0).r.length<=300):shS (L.take (k+1)):=fun t h1=>by
 rw [<-bp (d:=T0) hk] at h1
 rcases List.mem_append.1 h1 with h1|h1
 · exact h t h1
 · rw [List.mem_singleton.1 h1];exact ht
theorem Da{I O:Sl} : ∀ {k:Nat},shN I O k->(bB I O k).length<=120*k
 |0,_=>Nat.le_refl _
 |k+1,h=>by
  have ih:=Da (k:=k) fun i hi=>h i (by omega)
  have:=(h k (by omega)).1
  simp only [bB,List.length_append]
  omega
attribute [local irreducible] vc
theorem Ai(n m:Int)(I O:Sl)(hI:I.length=64)(hO:O.length=64):ak Tryz.prog gl0 31 [whS std n m I O] (.bool (std.tb fun _=>shW I O)):=by
 refine ag (T:=az) (G:=gwd) (X:=noX) ah mO ax aq mixed Tryz.func31 (.one) (fun A=> [whS A n m I O]) (fun A=> .bool (A.tb fun _=>shW I O)) fun A hA=> ?_
 cbv
 repeat' (first| (with_reducible first|exact vT|exact vD hA|exact vE hA|refine vA ?_ ?_) | (intro hc;cbv))
 refine ⟨⟨{p:Nat×Nat // p.1<=64∧shN I O p.1∧p.2=(bB I O p.1).length},fun b p=> [(3, .int .i64 (p.1.2:Nat)),(4, .int .i64 (p.1.1:Nat))],fun b p=> [],fun p=>64 - p.1.1,true⟩,⟨⟨(0,0),Nat.zero_le _,fun i hi=>absurd hi (by omega),rfl⟩, ?_⟩, ?_⟩
 · cbv
   subst hA
   simp [-List.getD_eq_getElem?_getD,sS]
 · rintro ⟨⟨i,q⟩,hx⟩
   have hi:i<=64:=hx.1
   have hN:shN I O i:=hx.2.1
   have hq:q=(bB I O i).length:=hx.2.2
   have hqb:=Da hN
   rcases Nat.lt_or_ge i 64 with hlt|hge
   · obtain ⟨i',hi'⟩: ∃ i',i'=i+1:=⟨_,rfl⟩
     obtain ⟨L,hL⟩: ∃ L,L=sl I i:=⟨_,rfl⟩
     obtain ⟨L',hL'⟩: ∃ L',L'=sl O i:=⟨_,rfl⟩
     have e1:I.getD i [] =L:=hL.symm
     have e2:O.getD i [] =L':=hL'.symm
     have hno60: ¬(L.length<=60∧L'.length<=60)->shW I O=false:=fun h=>Ag fun hq=>h (by rw [hL,hL'];exact (hq i hlt).1)
     rcases Classical.em (L.length<=60∧L'.length<=60) with h60|h60
     rotate_left
     · cbv
       repeat' (first| (with_reducible first|exact vT|exact vD hA|exact vE hA|refine vA ?_ ?_) | (intro hc;cbv))
       all_goals first
        | (exfalso
           subst hA
           simp only [sS,iNE,e1,e2] at*
           first
            | (have hq:decide ((i:Int)<64)=false:=by assumption
               have:=of_decide_eq_false hq
               omega)
            | (have hq:(bif decide (60<(L.length:Int)) then true else decide (60<(L'.length:Int)))=false:=by assumption
               rcases Nat.lt_or_ge 60 L.length with h|h
               · rw [decide_eq_true (by omega)] at hq;cases hq
               · rw [decide_eq_false (by omega)] at hq
                 have:=of_decide_eq_false (p:=60<(L'.length:Int)) hq
                 omega))
        | (fail_if_success (refine Exists.intro ?_ ?_)
           subst hA
           simp only [sS,iNE,e1,e2] at*
           first
            |done
            |exact fun h=>h
            |exact fun h=>⟨h,h⟩
            |exact fun h=>⟨h,by omega,by omega⟩
            |exact fun h=>⟨⟨h,h⟩,by omega,by omega⟩
            | (intro h;rw [h];rfl)
            |exact ⟨by omega,by omega⟩
            |exact (hno60 h60).symm
)
     obtain ⟨n',hn'⟩: ∃ n',n'=q+(L.length+L'.length):=⟨_,rfl⟩
     have hnn:n'=(bB I O i').length:=by rw [hn',hi',hq,hL,hL'];simp [bB]
     have hnext:shS L->shS L'->shN I O i':=fun h1 h2 j hj=>by
      rcases Nat.lt_or_ge j i with h3|h3
      · exact hN j h3
      · obtain rfl:j=i:=by omega
        rw [<-hL,<-hL'];exact ⟨h60,h1,h2⟩
     have wq1:IntKind.i64.wrap ((q:Int)+(L.length:Int))=(q:Int)+(L.length:Int):=w64 (by omega)
     have wq2:IntKind.i64.wrap ((q:Int)+(L.length:Int)+(L'.length:Int))=(n':Int):=by rw [w64 (by omega)];omega
     clear hno60
     cbv
     repeat' (first| (with_reducible first|exact vT|exact vD hA|exact vE hA|refine vA ?_ ?_) | (intro hc;cbv))
     all_goals first
      | (exfalso
         subst hA
         simp only [sS,iNE,e1,e2] at*
         first
          | (have hq:decide ((i:Int)<64)=false:=by assumption
             have:=of_decide_eq_false hq
             omega)
          | (have hq:(bif decide (60<(L.length:Int)) then true else decide (60<(L'.length:Int)))=true:=by assumption
             rw [decide_eq_false (show ¬60<(L.length:Int) by omega)] at hq
             have:=of_decide_eq_true (p:=60<(L'.length:Int)) hq
             omega))
      | (fail_if_success (refine Exists.intro ?_ ?_)
         subst hA
         simp only [sS,iNE,e1,e2] at*
         first
          |done
          |exact fun h=>h
          |exact fun h=>⟨h,h⟩
          |exact fun h=>⟨h,by omega,by omega⟩
          |exact fun h=>⟨⟨h,h⟩,by omega,by omega⟩
          | (intro h;rw [h];rfl)
          |exact ⟨by omega,by omega⟩
)
      |skip
     refine ⟨⟨{k:Nat // k<=L.length∧shS (L.take k)},fun b k=> [(5, .int .i64 (k.1:Nat))],fun b k=> [],fun k=>L.length - k.1,true⟩,⟨⟨0,Nat.zero_le _,fun t ht=>by simp at ht⟩, ?_⟩, ?_⟩
     · cbv
       subst hA
       simp [-List.getD_eq_getElem?_getD,sS]
     · rintro ⟨k,hy⟩
       have hk:k<=L.length:=hy.1
       have hS:shS (L.take k):=hy.2
       rcases Nat.lt_or_ge k L.length with hltk|hgek
       · obtain ⟨k',hk'⟩: ∃ k',k'=k+1:=⟨_,rfl⟩
         obtain ⟨t,ht⟩: ∃ t,t=L.getD k T0:=⟨_,rfl⟩
         have hgt:L.getD k { s:=0,r:= [],u:=0 } =t:=ht.symm
         have hyes:t.r.length<=300->shS (L.take k'):=fun h=>by rw [hk'];exact Ah hS hltk (ht▸h)
         have hno: ¬t.r.length<=300->shW I O=false:=fun h=>Ag fun hq=>h ((hq i hlt).2.1 t (by rw [ht,<-hL];exact iU hltk))
         cbv
         repeat' (first| (with_reducible first|exact vT|exact vD hA|exact vE hA|refine vA ?_ ?_) | (intro hc;cbv))
         all_goals first
          | (exfalso
             subst hA
             simp only [sS,iNE,e1] at*
             have hq:decide ((k:Int)<(L.length:Int))=false:=by assumption
             have:=of_decide_eq_false hq
             omega)
          | (fail_if_success (refine Exists.intro ?_ ?_)
             subst hA
             clear hyes
             simp only [sS,iNE,e1,hgt] at*
             first
              |done
              |exact ⟨by omega,by omega⟩
              | (refine (hno fun e=> ?_).symm
                 rw [decide_eq_true e] at hc
                 cases hc)
)
          | (have hok:t.r.length<=300:=by
              subst hA
              clear hyes hno
              simp only [sS,iNE,e1,hgt] at*
              have:=eM hc
              exact of_decide_eq_true this
             refine ⟨⟨k',by omega,hyes hok⟩, ?_,show L.length - k'<L.length - k by omega⟩
             cbv
             subst hA
             simp [-List.getD_eq_getElem?_getD,sS]
             exact ck hk' (by omega))
       · have hke:k=L.length:=by omega
         rw [hke,List.take_length] at hS
         have hs1:=hS
         cbv
         repeat' (first| (with_reducible first|exact vT|exact vD hA|exact vE hA|refine vA ?_ ?_) | (intro hc;cbv))
         all_goals first
          | (exfalso
             subst hA
             simp only [sS,iNE,e1] at*
             have hq:decide ((k:Int)<(L.length:Int))=true:=by assumption
             have:=of_decide_eq_true hq
             omega)
          | (fail_if_success (refine Exists.intro ?_ ?_)
             subst hA
             simp only [sS,iNE,e1] at*
             first
              |done
              |exact ⟨by omega,by omega⟩
)
          |skip
         refine ⟨⟨{k:Nat // k<=L'.length∧shS (L'.take k)},fun b k=> [(6, .int .i64 (k.1:Nat))],fun b k=> [],fun k=>L'.length - k.1,true⟩,⟨⟨0,Nat.zero_le _,fun t ht=>by simp at ht⟩, ?_⟩, ?_⟩
         · cbv
           subst hA
           simp [-List.getD_eq_getElem?_getD,sS]
         · rintro ⟨k,hy⟩
           have hk:k<=L'.length:=hy.1
           have hS:shS (L'.take k):=hy.2
           rcases Nat.lt_or_ge k L'.length with hltk|hgek
           · obtain ⟨k',hk'⟩: ∃ k',k'=k+1:=⟨_,rfl⟩
             obtain ⟨t,ht⟩: ∃ t,t=L'.getD k T0:=⟨_,rfl⟩
             have hgt:L'.getD k { s:=0,r:= [],u:=0 } =t:=ht.symm
             have hyes:t.r.length<=300->shS (L'.take k'):=fun h=>by rw [hk'];exact Ah hS hltk (ht▸h)
             have hno: ¬t.r.length<=300->shW I O=false:=fun h=>Ag fun hq=>h ((hq i hlt).2.2 t (by rw [ht,<-hL'];exact iU hltk))
             cbv
             repeat' (first| (with_reducible first|exact vT|exact vD hA|exact vE hA|refine vA ?_ ?_) | (intro hc;cbv))
             all_goals first
              | (exfalso
                 subst hA
                 simp only [sS,iNE,e2] at*
                 have hq:decide ((k:Int)<(L'.length:Int))=false:=by assumption
                 have:=of_decide_eq_false hq
                 omega)
              | (fail_if_success (refine Exists.intro ?_ ?_)
                 subst hA
                 clear hyes
                 simp only [sS,iNE,e2,hgt] at*
                 first
                  |done
                  |exact ⟨by omega,by omega⟩
                  | (refine (hno fun e=> ?_).symm
                     rw [decide_eq_true e] at hc
                     cases hc)
)
              | (have hok:t.r.length<=300:=by
                  subst hA
                  clear hyes hno
                  simp only [sS,iNE,e2,hgt] at*
                  have:=eM hc
                  exact of_decide_eq_true this
                 refine ⟨⟨k',by omega,hyes hok⟩, ?_,show L'.length - k'<L'.length - k by omega⟩
                 cbv
                 subst hA
                 simp [-List.getD_eq_getElem?_getD,sS]
                 exact ck hk' (by omega))
           · have hke:k=L'.length:=by omega
             rw [hke,List.take_length] at hS
             have hs2:=hS
             cbv
             repeat' (first| (with_reducible first|exact vT|exact vD hA|exact vE hA|refine vA ?_ ?_) | (intro hc;cbv))
             all_goals first
              | (exfalso
                 subst hA
                 simp only [sS,iNE,e2] at*
                 have hq:decide ((k:Int)<(L'.length:Int))=true:=by assumption
                 have:=of_decide_eq_true hq
                 omega)
              | (fail_if_success (refine Exists.intro ?_ ?_)
                 subst hA
                 simp only [sS,iNE,e2] at*
                 first
                  |done
                  |exact ⟨by omega,by omega⟩
)
              |skip
             refine ⟨⟨(i',n'),by show i'<=64;omega,hnext hs1 hs2,hnn⟩, ?_,show 64 - i'<64 - i by omega⟩
             cbv
             subst hA
             simp [-List.getD_eq_getElem?_getD,sS,e1,e2]
             exact ⟨by rw [wq1];exact wq2,ck hi' (by omega)⟩
   · have hie:i=64:=by omega
     subst hie
     have hf:=OB hN
     cbv
     repeat' (first| (with_reducible first|exact vT|exact vD hA|exact vE hA|refine vA ?_ ?_) | (intro hc;cbv))
     all_goals first
      | (exfalso
         subst hA
         simp only [sS,iNE] at*
         have hq:decide ((64:Int)<64)=true:=by assumption
         have:=of_decide_eq_true hq
         omega)
      | (subst hA
         simp only [sS,hq,Int.ofNat_eq_natCast]
         exact hf.symm)
end Go.Vd
