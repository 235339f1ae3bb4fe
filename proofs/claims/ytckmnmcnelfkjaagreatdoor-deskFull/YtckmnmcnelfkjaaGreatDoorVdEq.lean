/- Structs that hold structs of plain fields: their equality, cell by cell. -/
import Derived.Test.YtckmnmcnelfkjaaGreatDoorVdSeat
set_option linter.unusedVariables false
set_option linter.unusedSimpArgs false
namespace Go.Vd
open Go.RowKit
variable {P:Program} {fs:Array Field} {t:TypeId} {k:Nat}
inductive Plain2 (P:Program):Nat->List Field->List SV->Prop
 |nil {n} :Plain2 P n [] []
 |int {n f l z k a} (hn:f.name≠ "_") (ho:f.offset=n) (hd:P.underlying f.type=some (.int k)) (hr:Plain2 P (n+1) l z):Plain2 P n (f::l) (.int k a::z)
 |bool {n f l z a} (hn:f.name≠ "_") (ho:f.offset=n) (hd:P.underlying f.type=some .bool) (hr:Plain2 P (n+1) l z):Plain2 P n (f::l) (.bool a::z)
 |str {n f l z a} (hn:f.name≠ "_") (ho:f.offset=n) (hd:P.underlying f.type=some .string) (hr:Plain2 P (n+1) l z):Plain2 P n (f::l) (.str a::z)
 |sub {n f l z z' fs} (hn:f.name≠ "_") (ho:f.offset=n) (hd:P.underlying f.type=some (.struct fs)) (hs:P.stoodInHeld f.type=false) (hi:(P.info? f.type).map (fun i=>i.size)=some z.length)
   (hp:Plain P 0 fs.toList z) (hr:Plain2 P (n+z.length) l z'):Plain2 P n (f::l) (z++z')
theorem fE: ∀ {z z' l:List SV},aS (z++z') l=true-> ∃ l1 l2,l=l1++l2∧l1.length=z.length∧aS z l1=true∧aS z' l2=true
 | [],z',l,h=>⟨[],l,rfl,rfl,rfl,h⟩
 |x::z,z',l,h=>by
  cases l with
  |nil=>cases x<;>simp [aS] at h
  |cons y l=>
   cases x<;>cases y<;>simp [aS] at h
   · obtain ⟨l1,l2,rfl,e,h1,h2⟩:=fE h.2
     exact ⟨_::l1,l2,rfl,by simp [e],by simp [aS,h.1,h1],h2⟩
   · obtain ⟨l1,l2,rfl,e,h1,h2⟩:=fE h
     exact ⟨_::l1,l2,rfl,by simp [e],by simp [aS,h1],h2⟩
   · obtain ⟨l1,l2,rfl,e,h1,h2⟩:=fE h
     exact ⟨_::l1,l2,rfl,by simp [e],by simp [aS,h1],h2⟩
theorem my: ∀ {z l1 m1 l2 m2:List SV} {r:Bool},aS z l1=true->aS z m1=true->bJ std (l1++l2) (m1++m2)=some r-> ∃ r1 r2,bJ std l1 m1=some r1∧bJ std l2 m2=some r2∧r=(r1 && r2)
 | [],l1,m1,l2,m2,r,hl,hm,h=>by
   cases l1 with
   |cons y l=>simp [aS] at hl
   |nil=>cases m1 with
    |cons y l=>simp [aS] at hm
    |nil=>exact ⟨true,r,rfl,h,rfl⟩
 |x::z,l1,m1,l2,m2,r,hl,hm,h=>by
  cases l1 with
  |nil=>cases x<;>simp [aS] at hl
  |cons y l=>cases m1 with
   |nil=>cases x<;>simp [aS] at hm
   |cons y' m=>
    cases x<;>cases y<;>simp [aS] at hl<;>cases y'<;>simp [aS] at hm
    all_goals (simp only [List.cons_append,bJ] at h ⊢;split at h)
    all_goals first
     | (rename_i r' hr'
        simp only [sIE] at h
        subst h
        have hl':aS z l=true:=by first|exact hl|exact hl.2
        have hm':aS z m=true:=by first|exact hm|exact hm.2
        obtain ⟨r1,r2,e1,e2,e3⟩:=my hl' hm' hr'
        subst e3
        exact ⟨_,r2,by rw [e1],e2,by simp [std,Bool.and_assoc]⟩)
     |cases h
theorem l4: ∀ {xs:List Value} {l1 l2:List SV},bp dX xs (l1++l2)->bp dX (xs.take l1.length) l1∧bp dX (xs.drop l1.length) l2
 |xs, [],l2,h=>by simpa [bp] using h
 | [],_::_,_,h=>h.elim
 |x::xs,y::l1,l2,h=>by
  obtain ⟨h1,h2⟩:=l4 (l1:=l1) h.2
  exact ⟨⟨h.1,h1⟩,h2⟩
theorem yi(hd:P.underlying t=some (.struct fs))(hi:(P.info? t).map (fun i=>i.size)=some k){xs:Array Value}{off:Nat}(w:World):
 (part t xs off).run P w= .ok (.agg (xs.extract off (off+k))) w:=by
 cases h:P.info? t with
 |none=>rw [h] at hi;cases hi
 |some i=>
  rw [h] at hi
  simp only [Option.map_some,sIE] at hi
  subst hi
  simp [part,fY hd w,i5,aW h]
theorem yj(w:World){D:Nat}{xs ys:Array Value}{f:Field}{fs:List Field}{gs:Array Field}(hn:f.name≠ "_")(hd:P.underlying f.type=some (.struct gs))(hs:P.stoodInHeld f.type=false)(hi:(P.info? f.type).map (fun i=>i.size)=some k)
 {b r:Bool} (he:(Op.eqFields (D+1) (xs.extract f.offset (f.offset+k)) (ys.extract f.offset (f.offset+k)) gs.toList).run P w= .ok b w) (ht:(Op.eqFields (D+2) xs ys fs).run P w= .ok r w):
 (Op.eqFields (D+2) xs ys (f::fs)).run P w= .ok (b && r) w:=by
 have hfo:P.fieldsOf f.type=gs:=by simp [Program.fieldsOf,hd]
 have he':(Op.equalIn (D+2) f.type (.agg (xs.extract f.offset (f.offset+k))) (.agg (ys.extract f.offset (f.offset+k)))).run P w= .ok b w:=by
  rw [run_equalIn_agg w (D+1) f.type _ _ (by rw [hfo];exact hd) hs,hfo]
  exact he
 simp only [Op.eqFields,hn,ne_eq,not_false_eq_true,if_true,Sem.run_bind,yi hd hi,Result.andThen_ok,he',Sem.run_ite]
 cases b
 · simp
 · simpa using ht
theorem ob(w:World){D:Nat}{xs ys:Array Value} : ∀ {n:Nat} {fs:List Field} {z:List SV},Plain2 P n fs z-> ∀ {l m:List SV} {r:Bool},aS z l=true->aS z m=true->
 bp dX (xs.toList.drop n) l->bp dX (ys.toList.drop n) m->bJ std l m=some r->(Op.eqFields (D+2) xs ys fs).run P w= .ok r w:=by
 intro n fs z hp
 induction hp with
 |nil=>
  intro l m r hl hm _ _ h
  cases l with
  |nil=>cases m with
   |nil=>simp only [bJ,sIE] at h;subst h;simp [Op.eqFields]
   |cons y m=>simp [aS] at hm
  |cons x l=>simp [aS] at hl
 | @int n f fs z k a hn ho hd hr ih=>
   intro l m r hl hm hx hy h
   match l,m,hl,hm,hx,hy,h with
   | .int k1 a1::l, .int k2 a2::m,hl,hm,hx,hy,h=>
     simp only [aS,bAE] at hl hm
     obtain rfl:=gJ hl.1
     obtain rfl:=gJ hm.1
     match ex:xs.toList.drop n,ey:ys.toList.drop n,hx,hy with
     | .int k3 a3::xl, .int k4 a4::yl,hx,hy=>
       obtain ⟨⟨rfl,rfl⟩,hx2⟩:=hx
       obtain ⟨⟨rfl,rfl⟩,hy2⟩:=hy
       obtain ⟨hv,hxl⟩:=dg ex
       obtain ⟨hu,hyl⟩:=dg ey
       simp only [bJ] at h
       split at h
       · rename_i r' hr'
         cases h
         exact eh w hn hd rfl (by rw [ho,<-Array.getElem?_toList];exact hv) (by rw [ho,<-Array.getElem?_toList];exact hu) (run_equalIn_int w _ _ _ _ _ _ hd) (ih hl.2 hm.2 (by rw [hxl];exact hx2) (by rw [hyl];exact hy2) hr')
       · cases h
 | @bool n f fs z a hn ho hd hr ih=>
   intro l m r hl hm hx hy h
   match l,m,hl,hm,hx,hy,h with
   | .bool a1::l, .bool a2::m,hl,hm,hx,hy,h=>
     simp only [aS] at hl hm
     match ex:xs.toList.drop n,ey:ys.toList.drop n,hx,hy with
     | .bool a3::xl, .bool a4::yl,hx,hy=>
       obtain ⟨rfl,hx2⟩:=hx
       obtain ⟨rfl,hy2⟩:=hy
       obtain ⟨hv,hxl⟩:=dg ex
       obtain ⟨hu,hyl⟩:=dg ey
       simp only [bJ] at h
       split at h
       · rename_i r' hr'
         cases h
         exact eh w hn hd rfl (by rw [ho,<-Array.getElem?_toList];exact hv) (by rw [ho,<-Array.getElem?_toList];exact hu) (run_equalIn_bool' w _ _ _ _ hd) (ih hl hm (by rw [hxl];exact hx2) (by rw [hyl];exact hy2) hr')
       · cases h
 | @str n f fs z a hn ho hd hr ih=>
   intro l m r hl hm hx hy h
   match l,m,hl,hm,hx,hy,h with
   | .str a1::l, .str a2::m,hl,hm,hx,hy,h=>
     simp only [aS] at hl hm
     match ex:xs.toList.drop n,ey:ys.toList.drop n,hx,hy with
     | .string a3::xl, .string a4::yl,hx,hy=>
       obtain ⟨rfl,hx2⟩:=hx
       obtain ⟨rfl,hy2⟩:=hy
       obtain ⟨hv,hxl⟩:=dg ex
       obtain ⟨hu,hyl⟩:=dg ey
       simp only [bJ] at h
       split at h
       · rename_i r' hr'
         cases h
         refine eh w hn hd rfl (by rw [ho,<-Array.getElem?_toList];exact hv) (by rw [ho,<-Array.getElem?_toList];exact hu) ?_ (ih hl hm (by rw [hxl];exact hx2) (by rw [hyl];exact hy2) hr')
         rw [run_equalIn_string w _ _ _ _ hd]
         simp [std,bd,bf,bw,a8,aO,aI,ba,aM,aE,ByteArray.toList_eq]
       · cases h
 | @sub n f fs z z' gs hn ho hd hs hi hp hr ih=>
   intro l m r hl hm hx hy h
   obtain ⟨l1,l2,rfl,el,hl1,hl2⟩:=fE hl
   obtain ⟨m1,m2,rfl,em,hm1,hm2⟩:=fE hm
   obtain ⟨r1,r2,e1,e2,rfl⟩:=my hl1 hm1 h
   obtain ⟨hx1,hx2⟩:=l4 hx
   obtain ⟨hy1,hy2⟩:=l4 hy
   rw [el] at hx1 hx2
   rw [em] at hy1 hy2
   rw [List.drop_drop] at hx2 hy2
   refine yj w hn hd hs hi ?_ (ih hl2 hm2 (by simpa using hx2) (by simpa using hy2) e2)
   have hex: ∀ a:Array Value,(a.extract f.offset (f.offset+z.length)).toList.drop 0=(a.toList.drop n).take z.length:=fun a=>by
    rw [List.drop_zero,Array.toList_extract,ho]
    simp [List.extract]
   exact jH w hp hl1 hm1 (by rw [hex];exact hx1) (by rw [hex];exact hy1) e1
theorem l5{t:Nat}{z:List SV}(hg:P.eqGuardType P.depth t=false)(ht:P.underlying t=some (.struct fs))(hs:P.stoodInHeld t=false)(hp:Plain2 P 0 fs.toList z):xj P t z:=by
 refine ⟨hg,fun w xs ys l m r hl hm hx hy h=> ?_⟩
 have hfo:P.fieldsOf t=fs:=by simp [Program.fieldsOf,ht]
 rw [run_equalIn_agg w 9999 t _ _ (by rw [hfo];exact ht) hs,hfo]
 exact ob w hp hl hm (by simpa using hx) (by simpa using hy) h
theorem yk(u:P.underlying t=some (.int .u32))(em:Bool)(n:Nat)(a:Int)(w:World):(Instr.checkKey em (n+1) t (.int .u32 a)).run P w= .ok () w:=by
 simp [Instr.checkKey,run_underlying u]
theorem ym(u:P.underlying t=some .string)(em:Bool)(n:Nat)(b:ByteArray)(w:World):(Instr.checkKey em (n+1) t (.string b)).run P w= .ok () w:=by
 simp [Instr.checkKey,run_underlying u]
theorem yn{f1 f2:Field}(hu:P.underlying k=some (.struct #[f1,f2]))(n1:f1.name≠ "_")(n2:f2.name≠ "_")(o1:f1.offset=0)(o2:f2.offset=1)
 (u1:P.underlying f1.type=some (.int .u32)) (u2:P.underlying f2.type=some .string) (em:Bool) (n:Nat) (a:Int) (b:ByteArray) (w:World):(Instr.checkKey em (n+2) k (.agg #[.int .u32 a, .string b])).run P w= .ok () w:=by
 have p1:=iN (P:=P) u1 rfl (xs:= #[.int .u32 a, .string b]) (off:=f1.offset) (v:= .int .u32 a) (by rw [o1];rfl) w
 have p2:=iN (P:=P) u2 rfl (xs:= #[.int .u32 a, .string b]) (off:=f2.offset) (v:= .string b) (by rw [o2];rfl) w
 have c1:=yk (P:=P) u1 em n a w
 have c2:=ym (P:=P) u2 em n b w
 unfold Instr.checkKey
 simp only [Sem.run_bind,run_underlying hu,Result.andThen_ok]
 simp [n1,n2,p1,p2,c1,c2]
theorem yo(hu:P.underlying k=some (.struct fs)){f1 f2:Field}(hf:fs= #[f1,f2])(n1:f1.name≠ "_")(n2:f2.name≠ "_")(o1:f1.offset=0)(o2:f2.offset=1)
 (u1:P.underlying f1.type=some (.int .u32)) (u2:P.underlying f2.type=some .string) (he:xj P k [.int .u32 0, .str []]):sL P k:=by
 subst hf
 refine ⟨⟨_,hu⟩,fun em a b w=>yn hu n1 n2 o1 o2 u1 u2 em 9998 a b w,fun a a' b b' w=> ?_⟩
 have h:=he.2 w [.int .u32 a, .string b] [.int .u32 a', .string b'] [.int .u32 a, .str b.data.toList] [.int .u32 a', .str b'.data.toList] (a==a' && b.data.toList==b'.data.toList) rfl rfl ⟨⟨rfl,rfl⟩,by simp [dX],trivial⟩ ⟨⟨rfl,rfl⟩,by simp [dX],trivial⟩ (by simp [bJ,std])
 exact h
end Go.Vd
