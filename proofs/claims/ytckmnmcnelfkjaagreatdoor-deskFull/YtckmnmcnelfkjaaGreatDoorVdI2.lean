/- Messages and deals: whether they are right. -/
import Derived.Test.YtckmnmcnelfkjaaGreatDoorVdH3
import Derived.WalkKit
import Derived.Lib.Walk
import Derived.Lib.AppendZerosOnto
import Derived.Lib.Overlaps
import Derived.Lib.SliceRun
import Derived.Laws.Externs
import Derived.Deep.RegionLaw
import Derived.Test.YtckmnmcnelfkjaaGreatDoorVdX2
set_option linter.unusedVariables false
set_option linter.unusedSimpArgs false
set_option maxRecDepth 100000
set_option maxHeartbeats 4000000
namespace Go.Vd
open Go.Proofs
variable {i:Nat} {T:List UInt8}
abbrev It:=Int×List UInt8
def eI:En It:=fun A x=> [.int .i64 (A.ti fun _=>(x ()).1), .str (A.ts fun _=>(x ()).2)]
theorem PX:Inj eI 2:=fun x y h=>by
 obtain ⟨s,h1,h2⟩:=h 0 (by omega)
 obtain ⟨t,h3,h4⟩:=h 1 (by omega)
 have h1:Ceq s (.int .i64 x.1):=h1
 have h2:Ceq s (.int .i64 y.1):=h2
 have h3:Ceq t (.str x.2):=h3
 have h4:Ceq t (.str y.2):=h4
 rw [Ceq.int] at h1 h2
 rw [Ceq.str] at h3 h4
 subst h1 h3
 injection h2 with _ h2
 injection h4 with h4
 exact Prod.ext h2 h4
theorem NU(z:Int)(s:List UInt8): ∀ j,j<2->Ceq (ap [SV.int .i64 z,SV.str s] j) (ap (eI std fun _=>(z,s)) j):=by
 intro j hj
 rcases (show j=0∨j=1 by omega) with rfl|rfl
 · exact .refl _
 · exact .refl _
def mT (s:List UInt8):Bool:= [[48,49,48,48], [48,49,49,48], [48,52,48,48], [48,52,49,48], [48,52,50,48], [48,52,50,49], [48,52,51,48]].contains s
def mOk (L:List It)(i:Nat):Bool:=(i==0||decide ((L.getD (i - 1) (0, [])).1<(L.getD i (0, [])).1))&& rr (L.getD i (0, [])).1 (L.getD i (0, [])).2
def mUp (L:List It)(k:Nat):Bool:=(List.range k).all (mOk L)
def mR (T:List UInt8)(L:List It):Bool:=mT T &&(!L.isEmpty && mUp L L.length)
theorem JW(L:List It)(k:Nat):mUp L (k+1)=(mUp L k && mOk L k):=by
 unfold mUp;rw [List.range_succ,List.all_append];simp
theorem GD{L:List It}(hi:i<L.length)(h:mOk L i=false):mUp L L.length=false:=by
 unfold mUp
 rw [List.all_eq_false]
 exact ⟨i,List.mem_range.2 hi,by rw [h];simp⟩
theorem yH{L:List It}(hi:i<L.length)(h:mOk L i=false):mR T L=false:=by
 unfold mR;rw [GD hi h];simp
theorem Cw{L:List It}(h:mT T=false∨L= []):mR T L=false:=by
 unfold mR
 rcases h with h|h
 · rw [h];rfl
 · subst h;simp
theorem PY{L:List It}(h0:0<i)(h:(L.getD i (0, [])).1<=(L.getD (i - 1) (0, [])).1):mOk L i=false:=by
 unfold mOk
 rw [decide_eq_false (by omega),show (i==0)=false by (rw [beq_eq_false_iff_ne];omega)]
 rfl
theorem PZ{L:List It}(h:rr (L.getD i (0, [])).1 (L.getD i (0, [])).2=false):mOk L i=false:=by
 unfold mOk;rw [h];simp
theorem NV{L:List It}(h0:0<i->(L.getD (i - 1) (0, [])).1<(L.getD i (0, [])).1)(h:rr (L.getD i (0, [])).1 (L.getD i (0, [])).2=true):mOk L i=true:=by
 unfold mOk
 rw [h]
 rcases Nat.eq_zero_or_pos i with h1|h1
 · subst h1;rfl
 · rw [decide_eq_true (h0 h1)];simp
theorem wm1(h:0<i)(h1:i<=1000000):IntKind.i64.wrap ((i:Int) - 1)=((i - 1:Nat):Int):=(w64 (by omega)).trans (by omega)
theorem NW{L:List It}(h1:mT T=true)(h2: ¬L= [])(h3:mUp L L.length=true):mR T L=true:=by
 unfold mR;rw [h1,h3];cases L with
 |nil=>exact absurd rfl h2
 |cons a l=>rfl
attribute [local irreducible] vc
theorem GE(s:List UInt8):GFn 167 (fun A=> [.str s]) (fun A=> .bool (A.tb fun _=>mT s)):=by
 refine aC aP ar ak Tryz.func167 (.one) fun A hA=> ?_
 cbv
 repeat' (first| (with_reducible first|exact vT|exact vD hA|exact vE hA|refine vA ?_ ?_) | (intro hc;cbv))
 all_goals (subst hA;simp [sS] at*)
 all_goals first|contradiction| (simp [mT, *];done) | (subst_vars;decide)
noncomputable def GF:Ct:=fun A args=>match args with
 | [.str s] =>some (none, .bool (A.tb fun _=>mT s))
 |_=>none
noncomputable def wj:Ct:=fun A args=>match args with
 | [.int .i64 n, .str r] =>some (some (A.tp fun _=>r.length<=1000000), .bool (A.tb fun _=>rr n r))
 |_=>none
noncomputable def gm0:Ar->Pu:=aq 167 GF (aq 168 wj (gh2))
theorem GG:az Tryz.prog gl0 (gm0 std):=by
 refine ao (ao (Gy) ⟨_,Tryz.func168,rfl,by decide⟩ ?_) ⟨_,Tryz.func167,rfl,by decide⟩ ?_
 · intro args p r h hp
   unfold wj at h
   split at h<;>cases h
   exact Ba _ _ hp
 · intro args p r h hp
   unfold GF at h
   split at h<;>cases h
   exact GE _
theorem Bb(T:List UInt8)(L:List It)(hL:L.length<=1000000)(hS: ∀ i,(L.getD i (0, [])).2.length<=1000000):GFn 120 (fun A=> [.agg [.str T,aF eI (0, []) 2 A fun _=>L]]) (fun A=> .bool (A.tb fun _=>mR T L)):=by
 refine aC GG ar ak Tryz.func120 (.one) fun A hA=> ?_
 cbv
 repeat' (first| (with_reducible first|exact vT|exact vD hA|exact vE hA|refine vA ?_ ?_) | (intro hc;cbv))
 rotate_right
 all_goals first
  | (fail_if_success (refine Exists.intro ?_ ?_)
     subst hA
     simp [sS] at*
     done)
  | (fail_if_success (refine Exists.intro ?_ ?_)
     subst hA
     simp [sS] at*
     first
      |omega
      |exact (Cw (by first|assumption|exact .inl (by assumption) |exact .inr (by assumption))).symm
      |exact Cw (by first|assumption|exact .inl (by assumption) |exact .inr (by assumption))
)
  |skip
 have h0:mT T=true∧ ¬L= [] :=by
  subst hA
  simp [sS] at hc
  exact hc
 refine ⟨⟨{i:Nat // i<=L.length∧mUp L i=true},fun b i=> [(18, .int .i64 (i.1:Nat))],fun b i=> [],fun i=>L.length - i.1,true⟩,⟨⟨0,by omega,rfl⟩, ?_⟩, ?_⟩
 · cbv
   subst hA
   simp [-List.getD_eq_getElem?_getD,sS]
 · rintro ⟨i,hi,hz⟩
   cbv
   repeat' (first| (with_reducible first|exact vT|exact vD hA|exact vE hA|refine vA ?_ ?_) | (intro hc;cbv))
   all_goals first
    | (fail_if_success (refine Exists.intro ?_ ?_)
       subst hA
       simp [-List.getD_eq_getElem?_getD,sS] at*
       done)
    | (fail_if_success (refine Exists.intro ?_ ?_)
       clear hz
       subst hA
       simp [-List.getD_eq_getElem?_getD,sS] at*
       first
        |omega
        |exact hS _
        | (intro h1;rw [wm1 h1 (by omega)];omega)
        |exact yH (by assumption) (PZ (by assumption))
        | (have h1:0<i:=hc.1
           rw [wm1 h1 (by omega),Int.toNat_natCast] at hc
           exact yH (by assumption) (PY h1 hc.2))
        | (exfalso;omega))
    | (fail_if_success (refine Exists.intro ?_ ?_)
       have hie:i=L.length:=by (clear hz;subst hA;simp [sS] at*<;>omega)
       rw [hie] at hz
       have hm:=NW h0.1 h0.2 hz
       subst hA
       simp [sS,hm];done)
    | (have hlt:i<L.length:=by (clear hz;subst hA;simp [sS] at*<;>omega)
       have hok:mOk L i=true:=by
        clear hz
        subst hA
        simp [-List.getD_eq_getElem?_getD,sS] at*
        refine NV (fun h1=> ?_) (by assumption)
        have h2:=(by assumption:0<i->_) h1
        rw [wm1 h1 (by omega),Int.toNat_natCast] at h2
        exact h2
       obtain ⟨i',hi'⟩: ∃ i',i'=i+1:=⟨_,rfl⟩
       refine ⟨⟨i',by omega,by rw [hi',JW,hz,hok];rfl⟩, ?_,show L.length - i'<L.length - i by omega⟩
       cbv
       subst hA
       simp [sS]
       exact (w64 (by omega)).trans (by omega))
theorem yI{T:List UInt8}{n:Nat}{f:Nat->Nat->SV}(hp:ai eI (0, []) 2 n f∧n<=1000000∧ ∀ i,((ab eI (0, []) 2 n f).getD i (0, [])).2.length<=1000000):
 cS Tryz.prog gl0 120 [.agg [.str T, .slc n 2 f]] (.bool (std.tb fun _=>mR T (ab eI (0, []) 2 n f))):=
 aJ (Bb T (ab eI (0, []) 2 n f) (by rw [aN hp.1];exact hp.2.1) hp.2.2) ⟨⟨_,rfl,rfl,hp.1.sv,trivial⟩,trivial⟩
noncomputable def yJ:Ct:=fun A args=>match args with
 | [.agg [.str T, .slc n 2 f]] =>some (some (A.tp fun _=>ai eI (0, []) 2 n f∧n<=1000000∧ ∀ i,((ab eI (0, []) 2 n f).getD i (0, [])).2.length<=1000000), .bool (A.tb fun _=>mR T (ab eI (0, []) 2 n f)))
 |_=>none
noncomputable def gm1:Ar->Pu:=aq 120 yJ (gm0)
theorem P0:az Tryz.prog gl0 (gm1 std):=by
 refine ao (GG) ⟨_,Tryz.func120,rfl,by decide⟩ ?_
 · intro args p r h hp
   unfold yJ at h
   split at h<;>cases h
   exact yI hp
def lA (k:Int):Bool:=decide (k=1) || (decide (k=3) || (decide (k=5) ||decide (k=6)))
theorem yK(k:Int):GFn 70 (fun A=> [.int .i64 k]) (fun A=> .bool (A.tb fun _=>decide (1<=k∧k<=7))):=by
 refine aC aP ar ak Tryz.func70 (.one) fun A hA=> ?_
 cbv
 repeat' (first| (with_reducible first|exact vT|exact vD hA|exact vE hA|refine vA ?_ ?_) | (intro hc;cbv))
 all_goals (subst hA;simp [sS] at*)
 all_goals first
  | (rw [Bool.eq_iff_iff];simp;done)
theorem Bc(k:Int):GFn 121 (fun A=> [.int .i64 k]) (fun A=> .bool (A.tb fun _=>decide (k=5) ||decide (k=6))):=by
 refine aC aP ar ak Tryz.func121 (.one) fun A hA=> ?_
 cbv
 repeat' (first| (with_reducible first|exact vT|exact vD hA|exact vE hA|refine vA ?_ ?_) | (intro hc;cbv))
 all_goals (subst hA;simp [sS] at*)
 all_goals first
  | (rw [Bool.eq_iff_iff];simp;done)
  | (rw [Bool.eq_iff_iff];simp;omega)
noncomputable def yL:Ct:=fun A args=>match args with
 | [.int .i64 k] =>some (none, .bool (A.tb fun _=>decide (k=5) ||decide (k=6)))
 |_=>none
noncomputable def gm2:Ar->Pu:=aq 121 yL (gm1)
theorem yM:az Tryz.prog gl0 (gm2 std):=by
 refine ao (P0) ⟨_,Tryz.func121,rfl,by decide⟩ ?_
 · intro args p r h hp
   unfold yL at h
   split at h<;>cases h
   exact Bc _
theorem Ed(k:Int):GFn 72 (fun A=> [.int .i64 k]) (fun A=> .bool (A.tb fun _=>lA k)):=by
 refine aC yM ar ak Tryz.func72 (.one) fun A hA=> ?_
 cbv
 repeat' (first| (with_reducible first|exact vT|exact vD hA|exact vE hA|refine vA ?_ ?_) | (intro hc;cbv))
 all_goals (subst hA;simp [sS] at*)
 all_goals first
  | (unfold lA;rw [Bool.eq_iff_iff];simp;done)
  | (unfold lA;rw [Bool.eq_iff_iff];simp;omega)
theorem i1r(n:Int)(s:List UInt8):au eI (0, []) 2 1 (bf [[SV.int .i64 n,SV.str s]]) [(n,s)] :=au.one (NU n s)
theorem i1l(n:Int)(s:List UInt8):ab eI (0, []) 2 1 (bf [[SV.int .i64 n,SV.str s]])= [(n,s)] :=kX PX (i1r n s)
theorem i1w(n:Int)(s:List UInt8):ai eI (0, []) 2 1 (bf [[SV.int .i64 n,SV.str s]]):=⟨_,i1r n s⟩
theorem i1s(n:Int){s:List UInt8}(h:s.length<=1000000): ∀ i,(([(n,s)] :List It).getD i (0, [])).2.length<=1000000
 |0=>h
 |_+1=>show ([] :List UInt8).length<=1000000 from Nat.zero_le _
theorem P1(n:Int)(s:List UInt8):mR [48,49,48,48] [(n,s)] =rr n s:=by
 unfold mR mUp
 simp [mT,mOk]
theorem Ee(n:Int)(s:List UInt8)(hs:s.length<=1000000):GFn 71 (fun A=> [.int .i64 n, .str s]) (fun A=> .bool (A.tb fun _=>rr n s)):=by
 refine aC yM ar ak Tryz.func71 (.one) fun A hA=> ?_
 cbv
 repeat' (first| (with_reducible first|exact vT|exact vD hA|exact vE hA|refine vA ?_ ?_) | (intro hc;cbv))
 all_goals (subst hA;try simp [-List.getD_eq_getElem?_getD,sS,i1l,i1w,P1] at*)
 all_goals first
  |exact i1s n hs
noncomputable def wk:Ct:=fun A args=>match args with
 | [.int .i64 k] =>some (none, .bool (A.tb fun _=>decide (1<=k∧k<=7)))
 |_=>none
noncomputable def Cx:Ct:=fun A args=>match args with
 | [.int .i64 k] =>some (none, .bool (A.tb fun _=>lA k))
 |_=>none
noncomputable def Cy:Ct:=fun A args=>match args with
 | [.int .i64 n, .str s] =>some (some (A.tp fun _=>s.length<=1000000), .bool (A.tb fun _=>rr n s))
 |_=>none
noncomputable def gm3:Ar->Pu:=aq 70 wk (aq 72 Cx (aq 71 Cy (gm2)))
theorem GH:az Tryz.prog gl0 (gm3 std):=by
 refine ao (ao (ao (yM) ⟨_,Tryz.func71,rfl,by decide⟩ ?_) ⟨_,Tryz.func72,rfl,by decide⟩ ?_) ⟨_,Tryz.func70,rfl,by decide⟩ ?_
 · intro args p r h hp
   unfold Cy at h
   split at h<;>cases h
   exact Ee _ _ hp
 · intro args p r h hp
   unfold Cx at h
   split at h<;>cases h
   exact Ed _
 · intro args p r h hp
   unfold wk at h
   split at h<;>cases h
   exact yK _
def dR (k a s:Int)(p r c:List UInt8):Bool:=
 decide (1<=k∧k<=7)&&(decide (s<=999999)&&(rr 37 r &&(if lA k=true then fS p &&(decide ((p.length:Int)<=19)&&(decide (a<1000000000000)&& c== [])) else rr 39 c &&(p== [] && decide (a=0)))))
theorem Bd(k a s:Int)(p r c:List UInt8)(hp:p.length<=100000)(hr:r.length<=1000000)(hcc:c.length<=1000000):GFn 26 (fun A=> [.agg [.int .i64 k, .str p, .int .u64 a, .int .u32 s, .str r, .str c]]) (fun A=> .bool (A.tb fun _=>dR k a s p r c)):=by
 refine aC GH ar ak Tryz.func26 (.one) fun A hA=> ?_
 cbv
 repeat' (first| (with_reducible first|exact vT|exact vD hA|exact vE hA|refine vA ?_ ?_) | (intro hc;cbv))
 all_goals (subst hA;simp [-List.getD_eq_getElem?_getD,sS] at*)
 all_goals first
  |omega
  | (unfold dR
     rcases hc with (hc|hc) |hc
     · rw [decide_eq_false (p:=1<=k∧k<=7) (by omega)];rfl
     · rw [decide_eq_false (p:=s<=999999) (by omega)];simp
     · rw [hc];simp)
  | (have hd:lA k=true:=by assumption
     have hc:((1<=k∧k<=7)∧s<=999999)∧rr 37 r=true:=by assumption
     unfold dR
     rw [decide_eq_true hc.1.1,decide_eq_true hc.1.2,hc.2,if_pos hd]
     simp only [Bool.true_and,Bool.and_assoc]
     cases c<;>first|rfl|simp [Bool.and_assoc])
  | (have hd:lA k=false:=by assumption
     have hc:((1<=k∧k<=7)∧s<=999999)∧rr 37 r=true:=by assumption
     unfold dR
     rw [decide_eq_true hc.1.1,decide_eq_true hc.1.2,hc.2,if_neg (by rw [hd];simp)]
     simp only [Bool.true_and,Bool.and_assoc]
     have e:(a==0)=decide (a=0):=by rw [Bool.eq_iff_iff];simp
     cases p<;>first|rfl|simp [e,Bool.and_assoc])
end Go.Vd
namespace Go.Vd
open Go.Proofs
variable {j:Nat}
def gY (A:Ar)(s:Int)(r:List UInt8):SV:= .agg [.int .u32 s, .str r]
attribute [local irreducible] vc
theorem Ef(a:Int):GFn 165 (fun A=> [.int .u32 a]) (fun A=> .bool false):=by
 refine aC aP ar ak Tryz.func165 (.one) fun A hA=> ?_
 cbv
 repeat' (first| (with_reducible first|exact vT|exact vD hA|exact vE hA|refine vA ?_ ?_) | (intro hc;cbv))
 all_goals (subst hA;simp [-List.getD_eq_getElem?_getD,sS])
theorem GI(a:List UInt8):GFn 166 (fun A=> [.str a]) (fun A=> .bool false):=by
 refine aC aP ar ak Tryz.func166 (.one) fun A hA=> ?_
 cbv
 repeat' (first| (with_reducible first|exact vT|exact vD hA|exact vE hA|refine vA ?_ ?_) | (intro hc;cbv))
 all_goals (subst hA;simp [-List.getD_eq_getElem?_getD,sS])
noncomputable def Cz:Ct:=fun A args=>match args with
 | [.int .u32 a] =>some (none, .bool false)
 |_=>none
noncomputable def GJ:Ct:=fun A args=>match args with
 | [.str a] =>some (none, .bool false)
 |_=>none
noncomputable def gk1:Ar->Pu:=aq 165 Cz (aq 166 GJ (gm3))
theorem yN:az Tryz.prog gl0 (gk1 std):=by
 refine ao (ao (GH) ⟨_,Tryz.func166,rfl,by decide⟩ ?_) ⟨_,Tryz.func165,rfl,by decide⟩ ?_
 · intro args p r h hp
   unfold GJ at h
   split at h<;>cases h
   exact GI _
 · intro args p r h hp
   unfold Cz at h
   split at h<;>cases h
   exact Ef _
theorem Eg(a b:Int):GFn 118 (fun A=> [.int .u32 a, .int .u32 b]) (fun A=> .int .i64 (A.ti fun _=>cr a b)):=by
 refine aC yN ar ak Tryz.func118 (.one) fun A hA=> ?_
 cbv
 repeat' (first| (with_reducible first|exact vT|exact vD hA|exact vE hA|refine vA ?_ ?_) | (intro hc;cbv))
 all_goals (subst hA;simp [sS] at*)
 all_goals (unfold cr)
 all_goals first
  | (rw [if_pos (by assumption)];done)
  | (rw [if_neg (by omega),if_pos (by omega)];done)
  | (rw [if_neg (by omega),if_neg (by omega)];done)
theorem GK(a b:List UInt8):GFn 119 (fun A=> [.str a, .str b]) (fun A=> .int .i64 (A.ti fun _=>l6 a b)):=by
 refine aC yN ar ak Tryz.func119 (.one) fun A hA=> ?_
 cbv
 repeat' (first| (with_reducible first|exact vT|exact vD hA|exact vE hA|refine vA ?_ ?_) | (intro hc;cbv))
 all_goals (subst hA;simp only [sS,ga] at*)
 all_goals (try simp only [decide_eq_true_eq,decide_eq_false_iff_not,Bool.not_eq_false',Bool.not_eq_true',Bool.or_eq_true,Bool.or_eq_false_iff,beq_iff_eq,beq_eq_false_iff_ne] at*)
 all_goals first
  | (simp at*;done)
  | (rcases uW a b with ⟨h1,n,e⟩ | ⟨n,e⟩ | ⟨h1,n,e⟩<;>(first| (rw [e];done) |exact absurd h1 (by assumption) | (exfalso;subst n;simp_all [List.lt_irrefl];done) | (exfalso;simp_all;done) | (exfalso;exact List.lt_irrefl _ (List.lt_trans h1 (by assumption))) | (exfalso;(rcases (by assumption:a<b∨a=b) with h4|h4);(exact List.lt_irrefl _ (List.lt_trans h1 h4));exact n h4)))
theorem JX(L:List Int)(hL:L.length<=1000):GFn 117 (fun A=> [aF eZ 0 1 A fun _=>L]) (fun A=> .int .i64 (A.ti fun _=>orL L)):=by
 refine aC aP ar ak Tryz.func117 (.one) fun A hA=> ?_
 cbv
 repeat' (first| (with_reducible first|exact vT|exact vD hA|exact vE hA|refine vA ?_ ?_) | (intro hc;cbv))
 refine ⟨⟨{i:Nat // i<=L.length∧ ∀ x∈L.take i,x=0},fun b i=> [(8, .int .i64 (i.1:Nat))],fun b i=> [],fun i=>L.length - i.1,true⟩,⟨⟨0,by omega,by simp⟩, ?_⟩, ?_⟩
 · cbv
   subst hA
   simp [-List.getD_eq_getElem?_getD,sS]
 · rintro ⟨i,hi,hz⟩
   cbv
   repeat' (first| (with_reducible first|exact vT|exact vD hA|exact vE hA|refine vA ?_ ?_) | (intro hc;cbv))
   rotate_right 2
   · have hlt:i<L.length:=by subst hA;simp [sS] at*;omega
     have h0:L.getD i 0=0:=by subst hA;simpa [-List.getD_eq_getElem?_getD,sS] using hc
     refine ⟨⟨i+1,by omega,fun x hx=> ?_⟩, ?_,show L.length - (i+1)<L.length - i by omega⟩
     · rw [<-bk (d:=0) hlt] at hx
       rcases List.mem_append.1 hx with hx|hx
       · exact hz x hx
       · rw [List.mem_singleton.1 hx];exact h0
     · cbv
       subst hA
       simp [sS]
       exact w64 (by omega)
   · have hie:i=L.length:=by subst hA;simp [sS] at*;omega
     subst hie
     rw [List.take_length] at hz
     subst hA
     simp [sS,Cp hz]
   · subst hA;simp [sS] at*;omega
   · have hlt:i<L.length:=by subst hA;simp [sS] at*;omega
     have h0: ¬L.getD i 0=0:=by subst hA;simpa [-List.getD_eq_getElem?_getD,sS] using hc
     have h1:=yt hz hlt
     rw [if_neg h0] at h1
     subst hA
     simp [-List.getD_eq_getElem?_getD,sS,h1]
noncomputable def CA:Ct:=fun A args=>match args with
 | [.int .u32 a, .int .u32 b] =>some (none, .int .i64 (A.ti fun _=>cr a b))
 |_=>none
noncomputable def GL:Ct:=fun A args=>match args with
 | [.str a, .str b] =>some (none, .int .i64 (A.ti fun _=>l6 a b))
 |_=>none
noncomputable def LL:Ct:=fun A args=>match args with
 | [.slc n 1 f] =>some (some (A.tp fun _=>ai eZ 0 1 n f∧n<=1000), .int .i64 (A.ti fun _=>orL (ab eZ 0 1 n f)))
 |_=>none
noncomputable def gk2:Ar->Pu:=aq 118 CA (aq 119 GL (aq 117 LL (gk1)))
theorem GM:az Tryz.prog gl0 (gk2 std):=by
 refine ao (ao (ao (yN) ⟨_,Tryz.func117,rfl,by decide⟩ ?_) ⟨_,Tryz.func119,rfl,by decide⟩ ?_) ⟨_,Tryz.func118,rfl,by decide⟩ ?_
 · intro args p r h hp
   unfold LL at h
   split at h<;>cases h
   exact aJ (JX _ (by rw [aN hp.1];exact hp.2)) ⟨hp.1.sv,trivial⟩
 · intro args p r h hp
   unfold GL at h
   split at h<;>cases h
   exact GK _ _
 · intro args p r h hp
   unfold CA at h
   split at h<;>cases h
   exact Eg _ _
theorem q2(x y:Int):au eZ 0 1 2 (bf [[SV.int .i64 x], [SV.int .i64 y]]) [x,y] :=au.lst (l:= [_,_]) (L:= [x,y]) ⟨uU x,uU y,trivial⟩
theorem Be(s t:Int)(r q:List UInt8):GFn 69 (fun A=> [gY A s r,gY A t q]) (fun A=> .int .i64 (A.ti fun _=>c8 s r t q)):=by
 refine aC GM ar ak Tryz.func69 (.one) fun A hA=> ?_
 cbv
 repeat' (first| (with_reducible first|exact vT|exact vD hA|exact vE hA|refine vA ?_ ?_) | (intro hc;cbv))
 all_goals (subst hA;simp only [sS])
 · exact ⟨⟨_,q2 _ _⟩,by omega⟩
 · rw [kX yg (q2 _ _),Cq]
theorem JY(a c s:Int)(p r e:List UInt8):GFn 24 (fun A=> [.agg [.int .i64 a, .str p, .int .u64 c, .int .u32 s, .str r, .str e]]) (fun A=>gY A s r):=by
 refine aC aP ar ak Tryz.func24 (.one) fun A hA=> ?_
 cbv
 repeat' (first| (with_reducible first|exact vT|exact vD hA|exact vE hA|refine vA ?_ ?_) | (intro hc;cbv))
 all_goals (subst hA;simp [sS] at*)
theorem Bf(a c s:Int)(p r e:List UInt8):GFn 8 (fun A=> [.agg [.int .i64 a, .str p, .int .u64 c, .int .u32 s, .str r, .str e]]) (fun A=> .bool (A.tb fun _=>decide (p.length<=300∧r.length<=300∧e.length<=300))):=by
 refine aC aP ar ak Tryz.func8 (.one) fun A hA=> ?_
 cbv
 repeat' (first| (with_reducible first|exact vT|exact vD hA|exact vE hA|refine vA ?_ ?_) | (intro hc;cbv))
 all_goals (subst hA;simp [sS] at*)
 all_goals first
  | (rw [Bool.eq_iff_iff];simp;omega)
  | (intro _ _;constructor<;>assumption)
theorem GN(h b:Int):GFn 144 (fun A=> [.int .u32 h, .int .u8 b]) (fun A=> .int .u32 (A.ti fun _=>yw h b)):=by
 refine aC aP ar ak Tryz.func144 (.one) fun A hA=> ?_
 cbv
 repeat' (first| (with_reducible first|exact vT|exact vD hA|exact vE hA|refine vA ?_ ?_) | (intro hc;cbv))
 all_goals (subst hA;simp [sS,yw] at*)
theorem Bg(s:Int)(r:List UInt8):GFn 62 (fun A=> [gY A s r]) (fun A=> .bool (A.tb fun _=>dF s r)):=by
 refine aC aP ar ak Tryz.func62 (.one) fun A hA=> ?_
 cbv
 repeat' (first| (with_reducible first|exact vT|exact vD hA|exact vE hA|refine vA ?_ ?_) | (intro hc;cbv))
 rotate_right
 · have h0:s<=999999∧r.length=12:=by subst hA;simp [sS] at*;omega
   refine ⟨⟨{i:Nat // i<=r.length∧(r.take i).all okB=true},fun b i=> [(16, .int .i64 (i.1:Nat))],fun b i=> [],fun i=>r.length - i.1,true⟩,⟨⟨0,by omega,by simp⟩, ?_⟩, ?_⟩
   · cbv
     subst hA
     simp [-List.getD_eq_getElem?_getD,sS]
   · rintro ⟨i,hi,hz⟩
     cbv
     repeat' (first| (with_reducible first|exact vT|exact vD hA|exact vE hA|refine vA ?_ ?_) | (intro hc;cbv))
     all_goals first
      | (fail_if_success (refine Exists.intro ?_ ?_)
         subst hA
         simp [-List.getD_eq_getElem?_getD,sS,gD] at*
         done)
      | (fail_if_success (refine Exists.intro ?_ ?_)
         subst hA
         simp [-List.getD_eq_getElem?_getD,sS,gD] at*
         first
          |omega
          | (constructor<;>omega)
          | (have hlt:i<r.length:=by omega
             have hx:okB (r.getD i 0)=false:=by (simp [-List.getD_eq_getElem?_getD,okB];omega)
             rw [dF,ij hlt hx];simp;done)
          | (have hie:i=r.length:=by omega
             subst hie
             rw [List.take_of_length_le (Nat.le_refl _)] at hz
             simp [dF,h0];exact hz)
)
      | (have hlt:i<r.length:=by clear hz;subst hA;simp [sS] at*;omega
         have hx:okB (r.getD i 0)=true:=by
          clear hz
          subst hA
          simp [-List.getD_eq_getElem?_getD,sS,gD] at*
          simp [-List.getD_eq_getElem?_getD,okB]
          omega
         refine ⟨⟨i+1,by omega,by rw [k6 hlt,hz,hx];rfl⟩, ?_,show r.length - (i+1)<r.length - i by omega⟩
         cbv
         subst hA
         simp [sS]
         exact w64 (by omega))
 all_goals (subst hA;simp [sS] at*)
 all_goals (rw [Bool.eq_false_iff];intro h;simp [dF] at h;omega)
noncomputable def GO:Ct:=fun A args=>match args with
 | [.int .u32 h, .int .u8 b] =>some (none, .int .u32 (A.ti fun _=>yw h b))
 |_=>none
noncomputable def yO:Ct:=fun A args=>match args with
 | [.agg [.int .u32 s, .str r]] =>some (none, .bool (A.tb fun _=>dF s r))
 |_=>none
noncomputable def gk7:Ar->Pu:=aq 144 GO (aq 62 yO (gk2))
theorem GP:az Tryz.prog gl0 (gk7 std):=by
 refine ao (ao (GM) ⟨_,Tryz.func62,rfl,by decide⟩ ?_) ⟨_,Tryz.func144,rfl,by decide⟩ ?_
 · intro args p r h hp
   unfold yO at h
   split at h<;>cases h
   exact Bg _ _
 · intro args p r h hp
   unfold GO at h
   split at h<;>cases h
   exact GN _ _
def dK (s:Int)(r:List UInt8)(m:Int):Int:=if dF s r=true∧1<=m∧m<=16 then ((fnv (iO 6 s.toNat++r) % m.toNat:Nat):Int) else -1
theorem JZ{s:Int}{r:List UInt8}(h:dF s r=true):s<=999999∧r.length=12:=by
 simp [dF] at h
 exact ⟨h.1,h.2.1⟩
theorem SH{h:Nat}{m:Int}(hh:h<4294967296)(hm:1<=m∧m<=16):((h % m.toNat:Nat):Int)=(h:Int) % m∧0<=(h:Int) % m∧(h:Int) % m<16:=by
 have h1:=Int.emod_nonneg (h:Int) (b:=m) (by omega)
 have h2:=Int.emod_lt_of_pos (h:Int) (b:=m) (by omega)
 refine ⟨?_,h1,by omega⟩
 rw [Int.natCast_emod,show ((m.toNat:Nat):Int)=m by omega]
def uO (j:Nat):Nat:=if j<6 then 10 ^(5 - j) else 0
theorem six(h:j<=6):j=0∨j=1∨j=2∨j=3∨j=4∨j=5∨j=6:=by omega
theorem P2(h:j<=6):(0<uO j↔j<6)∧uO j<=100000:=by
 rcases six h with h|h|h|h|h|h|h<;>subst h<;>simp [uO]
theorem J0(h:j<6):IntKind.u32.wrap ((uO j:Int) / 10)=(uO (j+1):Int):=by
 rcases six (Nat.le_of_lt h) with h|h|h|h|h|h|h<;>subst h<;>first|rfl|omega
theorem J1{n:Int}(h:0<=n∧n<4294967296):IntKind.u32.wrap n=n:=by rw [IntKind.wrap_u32];omega
theorem SI{s:Int}(hs:0<=s∧s<=999999)(h:j<6):IntKind.u8.wrap (IntKind.u32.wrap (48+(IntKind.u32.wrap (s.tdiv (uO j:Int))).tmod 10))=(((iO 6 s.toNat).getD j 0).toNat:Int):=by
 rw [Gp h,Int.tdiv_eq_ediv_of_nonneg hs.1]
 obtain ⟨n,rfl⟩: ∃ n:Nat,s=n:=⟨s.toNat,by omega⟩
 rw [Int.toNat_natCast]
 have e:uO j=10 ^(5 - j):=if_pos h
 have hd:n / uO j<=n:=Nat.div_le_self _ _
 rw [<-Int.natCast_ediv]
 rw [<-e]
 generalize n / uO j=q at hd ⊢
 rw [J1 (n:=(q:Int)) (by omega),Int.tmod_eq_emod_of_nonneg (by omega),IntKind.wrap_u32,IntKind.wrap_u8,UInt8.toNat_ofNat']
 omega
theorem Bh(s m:Int)(r:List UInt8)(hs:0<=s∧s<4294967296):GFn 93 (fun A=> [gY A s r, .int .i64 m]) (fun A=> .int .i64 (A.ti fun _=>dK s r m)):=by
 refine aC GP ar ak Tryz.func93 (.one) fun A hA=> ?_
 cbv
 repeat' (first| (with_reducible first|exact vT|exact vD hA|exact vE hA|refine vA ?_ ?_) | (intro hc;cbv))
 rotate_right
 · have hk:dF s r=true∧1<=m∧m<=16:=by subst hA;simp [sS] at hc;exact ⟨hc.1.1,hc.1.2,hc.2⟩
   have hs9:=JZ hk.1
   obtain ⟨D,hD⟩: ∃ D,D=iO 6 s.toNat:=⟨_,rfl⟩
   have hDl:D.length=6:=by rw [hD,yr]
   refine ⟨⟨{p:Nat×Nat×Nat // p.1<=6∧p.2.1=uO p.1∧p.2.2=fnv (D.take p.1)},fun b p=> [(5, .int .u32 (p.1.2.2:Nat)),(6, .int .u32 (p.1.2.1:Nat))],fun b p=> [],fun p=>6 - p.1.1,true⟩,⟨⟨(0,100000,2166136261),by omega,rfl,rfl⟩, ?_⟩, ?_⟩
   · cbv
     subst hA
     simp [sS]
   · rintro ⟨⟨j,u,h⟩,hj,hu,hh⟩
     simp only at hj hu hh
     have hup:=P2 hj
     cbv
     repeat' (first| (with_reducible first|exact vT|exact vD hA|exact vE hA|refine vA ?_ ?_) | (intro hc;cbv))
     all_goals first
      | (fail_if_success (refine Exists.intro ?_ ?_)
         clear hh hu
         subst hA
         simp [sS] at*
         done)
      | (fail_if_success (refine Exists.intro ?_ ?_)
         clear hh
         subst hA
         simp [sS] at*
         omega)
      |skip
     · have hlt:j<6:=by rw [hu] at hc;clear hh;subst hA;exact hup.1.1 (by simpa [sS] using hc)
       obtain ⟨j',hj'⟩: ∃ j',j'=j+1:=⟨_,rfl⟩
       obtain ⟨u',hu'⟩: ∃ u',u'=uO j':=⟨_,rfl⟩
       obtain ⟨h',hh'⟩: ∃ h',h'=fnv (D.take j'):=⟨_,rfl⟩
       refine ⟨⟨(j',u',h'),by omega,hu',hh'⟩, ?_,show 6 - j'<6 - j by omega⟩
       cbv
       subst hA
       simp [-List.getD_eq_getElem?_getD,sS]
       have e1:=SI (s:=s) ⟨hs.1,hs9.1⟩ hlt
       rw [<-hu,<-hD] at e1
       refine ⟨?_, ?_⟩
       · rw [e1,hh,yx,hh',hj',bk (by omega)]
       · rw [hu,hu',hj'];exact J0 hlt
     · have hje:j=6:=by rw [hu] at hc;clear hh;subst hA;(have h5:uO j=0:=by simpa [sS] using hc);(rcases Nat.lt_or_ge j 6 with h4|h4;(have:=hup.1.2 h4;omega);omega)
       rw [hje,List.take_of_length_le (by omega)] at hh
       refine ⟨⟨{p:Nat×Nat // p.1<=r.length∧p.2=fnv (D++r.take p.1)},fun b p=> [(5, .int .u32 (p.1.2:Nat)),(35, .int .i64 (p.1.1:Nat))],fun b p=> [],fun p=>r.length - p.1.1,true⟩,⟨⟨(0,h),by omega,by rw [hh];simp⟩, ?_⟩, ?_⟩
       · cbv
         subst hA
         simp [sS]
       · rintro ⟨⟨i,g⟩,hi,hg⟩
         simp only at hi hg
         cbv
         repeat' (first| (with_reducible first|exact vT|exact vD hA|exact vE hA|refine vA ?_ ?_) | (intro hc;cbv))
         all_goals first
          | (fail_if_success (refine Exists.intro ?_ ?_)
             clear hg hu
             subst hA
             simp [sS] at*
             done)
          | (fail_if_success (refine Exists.intro ?_ ?_)
             clear hg hu
             subst hA
             simp [sS] at*
             first
              |omega
              | (rw [J1 (by omega)];omega))
          |skip
         · have hlt:i<r.length:=by clear hg;subst hA;simp [sS] at*;omega
           obtain ⟨i',hi'⟩: ∃ i',i'=i+1:=⟨_,rfl⟩
           obtain ⟨g',hg'⟩: ∃ g',g'=fnv (D++r.take i'):=⟨_,rfl⟩
           refine ⟨⟨(i',g'),by omega,hg'⟩, ?_,show r.length - i'<r.length - i by omega⟩
           cbv
           subst hA
           simp [-List.getD_eq_getElem?_getD,sS,gD]
           refine ⟨?_,(w64 (by omega)).trans (by omega)⟩
           rw [hg,yx,hg',hi',List.append_assoc,bk hlt]
         · have hie:i=r.length:=by clear hg;subst hA;simp [sS] at*;omega
           rw [hie,List.take_length,hD] at hg
           have hb:=Gn (iO 6 s.toNat++r)
           have hq:=SH hb hk.2
           subst hA
           simp only [sS,Int.ofNat_eq_natCast]
           rw [J1 (by omega),Int.tmod_eq_emod_of_nonneg (by omega),dK,if_pos hk,hq.1,hg,w64 (by omega)]
 all_goals (subst hA;simp [sS] at*)
 all_goals first
  | (rw [dK,if_neg (fun h=>by rcases hc with (hc|hc) |hc;(rw [h.1] at hc;cases hc);omega;omega)];done)
noncomputable def yP:Ct:=fun A args=>match args with
 | [.agg [.int .u32 s, .str r], .agg [.int .u32 t, .str q]] =>some (none, .int .i64 (A.ti fun _=>c8 s r t q))
 |_=>none
noncomputable def p7:Ct:=fun A args=>match args with
 | [.agg [.int .i64 a, .str p, .int .u64 c, .int .u32 s, .str r, .str e]] =>some (none, .agg [.int .u32 s, .str r])
 |_=>none
noncomputable def ny:Ct:=fun A args=>match args with
 | [.agg [.int .i64 a, .str p, .int .u64 c, .int .u32 s, .str r, .str e]] =>some (none, .bool (A.tb fun _=>decide (p.length<=300∧r.length<=300∧e.length<=300)))
 |_=>none
noncomputable def yQ:Ct:=fun A args=>match args with
 | [.agg [.int .u32 s, .str r], .int .i64 m] =>some (some (A.tp fun _=>0<=s∧s<4294967296), .int .i64 (A.ti fun _=>dK s r m))
 |_=>none
noncomputable def nA:Ct:=fun A args=>match args with
 | [.agg [.int .i64 k, .str p, .int .u64 a, .int .u32 s, .str r, .str c]] =>some (some (A.tp fun _=>p.length<=100000∧r.length<=1000000∧c.length<=1000000), .bool (A.tb fun _=>dR k a s p r c))
 |_=>none
noncomputable def gk8:Ar->Pu:=aq 69 yP (aq 24 p7 (aq 8 ny (aq 93 yQ (aq 26 nA (gk7)))))
theorem mz:az Tryz.prog gl0 (gk8 std):=by
 refine ao (ao (ao (ao (ao (GP) ⟨_,Tryz.func26,rfl,by decide⟩ ?_) ⟨_,Tryz.func93,rfl,by decide⟩ ?_) ⟨_,Tryz.func8,rfl,by decide⟩ ?_) ⟨_,Tryz.func24,rfl,by decide⟩ ?_) ⟨_,Tryz.func69,rfl,by decide⟩ ?_
 · intro args p r h hp
   unfold nA at h
   split at h<;>cases h
   exact Bd _ _ _ _ _ _ hp.1 hp.2.1 hp.2.2
 · intro args p r h hp
   unfold yQ at h
   split at h<;>cases h
   exact Bh _ _ _ hp
 · intro args p r h hp
   unfold ny at h
   split at h<;>cases h
   exact Bf _ _ _ _ _ _
 · intro args p r h hp
   unfold p7 at h
   split at h<;>cases h
   exact JY _ _ _ _ _ _
 · intro args p r h hp
   unfold yP at h
   split at h<;>cases h
   exact Be _ _ _ _
end Go.Vd
namespace Go.Vd
open Go.Proofs
structure Ent where
 s:Int
 r:List UInt8
 st:Int
 pan:List UInt8
 am:Int
 code:List UInt8
 tr:Int
 ca:Int
 deriving DecidableEq
structure Dl where
 k:Int
 pan:List UInt8
 am:Int
 s:Int
 r:List UInt8
 code:List UInt8
 deriving DecidableEq
def E0:Ent:=⟨0, [],0, [],0, [],0,0⟩
def D0:Dl:=⟨0, [],0,0, [], []⟩
def unT (e:Ent):Bool:=decide (e.tr=0)&& decide (e.ca=0)
def tuR (e:Ent):Bool:=(decide (e.ca=1) ||decide (e.ca=2))&&(decide (0<=e.tr)&& decide (e.tr<=16))
def eSt (e:Ent):Bool:=
 if e.st=1 then decide (e.code= [])&& unT e else if e.st=2 then decide (e.code= [48,48])&& unT e
 else if e.st=3 then decide (¬e.code= [48,48])&&(rr 39 e.code && unT e) else if e.st=4∨e.st=5∨e.st=6 then rr 39 e.code && tuR e else false
def eR (e:Ent):Bool:=dF e.s e.r &&(decide ((e.pan.length:Int)<=19)&&(fS e.pan &&(decide (e.am<1000000000000)&& eSt e)))
theorem RU{s st am tr ca:Int}{r pan code:List UInt8}(hc:((dF s r=false∨(19:Int)<(pan.length:Int))∨fS pan=false)∨1000000000000<=am):eR ⟨s,r,st,pan,am,code,tr,ca⟩=false:=by
 rw [Bool.eq_false_iff]
 intro h
 simp only [eR,bAE,decide_eq_true_eq] at h
 rcases hc with ((hc|hc) |hc) |hc
 · rw [hc] at h;cases h.1
 · omega
 · rw [hc] at h;cases h.2.2.1
 · omega
theorem Eh{e:Ent}(h:((dF e.s e.r=true∧(e.pan.length:Int)<=19)∧fS e.pan=true)∧e.am<1000000000000):eR e=eSt e:=by
 unfold eR
 rw [h.1.1.1,decide_eq_true h.1.1.2,h.1.2,decide_eq_true h.2]
 rfl
attribute [local irreducible] vc
theorem J3(s st am tr ca:Int)(r pan code:List UInt8):GFn 139 (fun A=> [.agg [.int .u32 s, .str r, .int .i64 st, .str pan, .int .u64 am, .str code, .int .i64 tr, .int .i64 ca]]) (fun A=> .bool (A.tb fun _=>unT ⟨s,r,st,pan,am,code,tr,ca⟩)):=by
 refine aC aP ar ak Tryz.func139 (.one) fun A hA=> ?_
 cbv
 repeat' (first| (with_reducible first|exact vT|exact vD hA|exact vE hA|refine vA ?_ ?_) | (intro hc;cbv))
 all_goals (subst hA;simp [sS] at*)
 all_goals (rw [Bool.eq_iff_iff];simp [unT])
theorem J4(s st am tr ca:Int)(r pan code:List UInt8):GFn 141 (fun A=> [.agg [.int .u32 s, .str r, .int .i64 st, .str pan, .int .u64 am, .str code, .int .i64 tr, .int .i64 ca]]) (fun A=> .bool (A.tb fun _=>tuR ⟨s,r,st,pan,am,code,tr,ca⟩)):=by
 refine aC aP ar ak Tryz.func141 (.one) fun A hA=> ?_
 cbv
 repeat' (first| (with_reducible first|exact vT|exact vD hA|exact vE hA|refine vA ?_ ?_) | (intro hc;cbv))
 all_goals (subst hA;simp [sS] at*)
 all_goals (rw [Bool.eq_iff_iff];simp [tuR];omega)
theorem Ei(c:List UInt8)(hcc:c.length<=1000000):GFn 140 (fun A=> [.str c]) (fun A=> .bool (A.tb fun _=>rr 39 c)):=by
 refine aC mz ar ak Tryz.func140 (.one) fun A hA=> ?_
 cbv
 repeat' (first| (with_reducible first|exact vT|exact vD hA|exact vE hA|refine vA ?_ ?_) | (intro hc;cbv))
 all_goals (subst hA;try simp [sS] at*)
 all_goals first|exact hcc
noncomputable def LM:Ct:=fun A args=>match args with
 | [.agg [.int .u32 s, .str r, .int .i64 st, .str pan, .int .u64 am, .str code, .int .i64 tr, .int .i64 ca]] =>some (none, .bool (A.tb fun _=>unT ⟨s,r,st,pan,am,code,tr,ca⟩))
 |_=>none
noncomputable def LN:Ct:=fun A args=>match args with
 | [.agg [.int .u32 s, .str r, .int .i64 st, .str pan, .int .u64 am, .str code, .int .i64 tr, .int .i64 ca]] =>some (none, .bool (A.tb fun _=>tuR ⟨s,r,st,pan,am,code,tr,ca⟩))
 |_=>none
noncomputable def CB:Ct:=fun A args=>match args with
 | [.str c] =>some (some (A.tp fun _=>c.length<=1000000), .bool (A.tb fun _=>rr 39 c))
 |_=>none
noncomputable def gc1:Ar->Pu:=aq 139 LM (aq 141 LN (aq 140 CB (gk8)))
theorem GQ:az Tryz.prog gl0 (gc1 std):=by
 refine ao (ao (ao (mz) ⟨_,Tryz.func140,rfl,by decide⟩ ?_) ⟨_,Tryz.func141,rfl,by decide⟩ ?_) ⟨_,Tryz.func139,rfl,by decide⟩ ?_
 · intro args p r h hp
   unfold CB at h
   split at h<;>cases h
   exact Ei _ hp
 · intro args p r h hp
   unfold LN at h
   split at h<;>cases h
   exact J4 _ _ _ _ _ _ _ _
 · intro args p r h hp
   unfold LM at h
   split at h<;>cases h
   exact J3 _ _ _ _ _ _ _ _
theorem J5(s st am tr ca:Int)(r pan code:List UInt8)(hp:pan.length<=100000)(hcc:code.length<=1000000):GFn 90 (fun A=> [.agg [.int .u32 s, .str r, .int .i64 st, .str pan, .int .u64 am, .str code, .int .i64 tr, .int .i64 ca]]) (fun A=> .bool (A.tb fun _=>eR ⟨s,r,st,pan,am,code,tr,ca⟩)):=by
 refine aC GQ ar ak Tryz.func90 (.one) fun A hA=> ?_
 cbv
 repeat' (first| (with_reducible first|exact vT|exact vD hA|exact vE hA|refine vA ?_ ?_) | (intro hc;cbv))
 all_goals (subst hA;try simp [sS] at*)
 all_goals first
  |exact hcc
  |exact hp
  | (intro h1 h2;exact ⟨⟨h1,h2⟩,hp⟩)
  | (intro h1;exact ⟨h1,hcc⟩)
  | (exact RU (by assumption))
  | (have hq:((dF s r=true∧(pan.length:Int)<=19)∧fS pan=true)∧am<1000000000000:=by assumption
     rw [Eh (e:=⟨s,r,st,pan,am,code,tr,ca⟩) hq]
     unfold eSt
     simp [*]
     done)
  | (have hq:((dF s r=true∧(pan.length:Int)<=19)∧fS pan=true)∧am<1000000000000:=by assumption
     rw [Eh (e:=⟨s,r,st,pan,am,code,tr,ca⟩) hq]
     unfold eSt
     rw [Bool.eq_iff_iff]
     simp [*]
     done)
  |contradiction
  | (have hq:((dF s r=true∧(pan.length:Int)<=19)∧fS pan=true)∧am<1000000000000:=by assumption
     rw [Eh (e:=⟨s,r,st,pan,am,code,tr,ca⟩) hq]
     unfold eSt
     rw [Bool.eq_iff_iff]
     simp [*]
     intros
     exact and_assoc)
noncomputable def LO:Ct:=fun A args=>match args with
 | [.agg [.int .u32 s, .str r, .int .i64 st, .str pan, .int .u64 am, .str code, .int .i64 tr, .int .i64 ca]] =>some (some (A.tp fun _=>pan.length<=100000∧code.length<=1000000), .bool (A.tb fun _=>eR ⟨s,r,st,pan,am,code,tr,ca⟩))
 |_=>none
noncomputable def gc2:Ar->Pu:=aq 90 LO (gc1)
theorem yR:az Tryz.prog gl0 (gc2 std):=by
 refine ao (GQ) ⟨_,Tryz.func90,rfl,by decide⟩ ?_
 · intro args p r h hp
   unfold LO at h
   split at h<;>cases h
   exact J5 _ _ _ _ _ _ _ _ hp.1 hp.2
end Go.Vd
set_option maxHeartbeats 8000000
namespace Go.Vd
open Go.Proofs
variable {L:List Ent}
def eE:En Ent:=fun A x=> [.int .u32 (A.ti fun _=>(x ()).s), .str (A.ts fun _=>(x ()).r), .int .i64 (A.ti fun _=>(x ()).st), .str (A.ts fun _=>(x ()).pan), .int .u64 (A.ti fun _=>(x ()).am), .str (A.ts fun _=>(x ()).code), .int .i64 (A.ti fun _=>(x ()).tr), .int .i64 (A.ti fun _=>(x ()).ca)]
theorem GR:Inj eE 8:=fun x y h=>by
 obtain ⟨s0,a0,b0⟩:=h 0 (by omega)
 obtain ⟨s1,a1,b1⟩:=h 1 (by omega)
 obtain ⟨s2,a2,b2⟩:=h 2 (by omega)
 obtain ⟨s3,a3,b3⟩:=h 3 (by omega)
 obtain ⟨s4,a4,b4⟩:=h 4 (by omega)
 obtain ⟨s5,a5,b5⟩:=h 5 (by omega)
 obtain ⟨s6,a6,b6⟩:=h 6 (by omega)
 obtain ⟨s7,a7,b7⟩:=h 7 (by omega)
 have a0:Ceq s0 (.int .u32 x.s):=a0
 have b0:Ceq s0 (.int .u32 y.s):=b0
 have a1:Ceq s1 (.str x.r):=a1
 have b1:Ceq s1 (.str y.r):=b1
 have a2:Ceq s2 (.int .i64 x.st):=a2
 have b2:Ceq s2 (.int .i64 y.st):=b2
 have a3:Ceq s3 (.str x.pan):=a3
 have b3:Ceq s3 (.str y.pan):=b3
 have a4:Ceq s4 (.int .u64 x.am):=a4
 have b4:Ceq s4 (.int .u64 y.am):=b4
 have a5:Ceq s5 (.str x.code):=a5
 have b5:Ceq s5 (.str y.code):=b5
 have a6:Ceq s6 (.int .i64 x.tr):=a6
 have b6:Ceq s6 (.int .i64 y.tr):=b6
 have a7:Ceq s7 (.int .i64 x.ca):=a7
 have b7:Ceq s7 (.int .i64 y.ca):=b7
 rw [Ceq.int] at a0 b0 a2 b2 a4 b4 a6 b6 a7 b7
 rw [Ceq.str] at a1 b1 a3 b3 a5 b5
 subst a0 a1 a2 a3 a4 a5 a6 a7
 cases x
 cases y
 simp at b0 b1 b2 b3 b4 b5 b6 b7
 simp only [Ent.mk.injEq]
 exact ⟨b0,b1,b2,b3,b4,b5,b6,b7⟩
theorem CC(e:Ent): ∀ j,j<8->Ceq (ap [SV.int .u32 e.s,SV.str e.r,SV.int .i64 e.st,SV.str e.pan,SV.int .u64 e.am,SV.str e.code,SV.int .i64 e.tr,SV.int .i64 e.ca] j) (ap (eE std fun _=>e) j):=by
 intro j hj
 rcases (show j=0∨j=1∨j=2∨j=3∨j=4∨j=5∨j=6∨j=7 by omega) with rfl|rfl|rfl|rfl|rfl|rfl|rfl|rfl<;>exact .refl _
theorem bh(L:List Ent):ab eE E0 8 L.length (ax eE { s:=0,r:= [],st:=0,pan:= [],am:=0,code:= [],tr:=0,ca:=0 } std fun _=>L)=L:=eA GR L
theorem aY(L:List Ent):ai eE E0 8 L.length (ax eE { s:=0,r:= [],st:=0,pan:= [],am:=0,code:= [],tr:=0,ca:=0 } std fun _=>L):=f9 L
def enS (e:Ent):Prop:=e.pan.length<=100000∧e.code.length<=1000000
def c9 (e f:Ent):Int:=c8 e.s e.r f.s f.r
def uZ:List Ent->Bool
 | [] =>true
 | [e] =>eR e
 |e::f::L=>eR e &&(decide (c9 e f<0)&& uZ (f::L))
def k7 (L:List Ent):Prop:= ∀ j,j<L.length->eR (L.getD j E0)=true∧(0<j->c9 (L.getD (j - 1) E0) (L.getD j E0)<0)
theorem gZ: ∀(L:List Ent),uZ L=true↔k7 L
 | [] =>⟨fun _ j h=>absurd h (by simp),fun _=>rfl⟩
 | [e] =>by
   constructor
   · intro h j hj
     obtain rfl:j=0:=by simp at hj;omega
     exact ⟨h,fun h=>absurd h (by omega)⟩
   · intro h
     exact (h 0 (by simp)).1
 |e::f::L=>by
  have ih:=gZ (f::L)
  simp only [uZ,bAE,decide_eq_true_eq]
  constructor
  · rintro ⟨h1,h2,h3⟩ j hj
    have h4:=ih.1 h3
    cases j with
    |zero=>exact ⟨h1,fun h=>absurd h (by omega)⟩
    |succ j=>
     have h5:=h4 j (by simpa using hj)
     refine ⟨h5.1,fun _=> ?_⟩
     cases j with
     |zero=>exact h2
     |succ j=>exact h5.2 (by omega)
  · intro h
    refine ⟨(h 0 (by simp)).1,(h 1 (by simp)).2 (by omega),ih.2 fun j hj=> ?_⟩
    have h5:=h (j+1) (by simpa using hj)
    refine ⟨h5.1,fun h0=> ?_⟩
    have:=h5.2 (by omega)
    obtain ⟨i,rfl⟩: ∃ i,j=i+1:=⟨j - 1,by omega⟩
    exact this
theorem cC{a b:Nat}(h:b=a+1)(hb:a<=1000000000000):IntKind.i64.wrap ((a:Int)+1)=(b:Int):=by
 rw [w64 (by omega)];omega
def shR (L:List Ent):Bool:=decide (L.length<=128)&& uZ L
theorem P3{j:Nat}(hj:j<L.length)(h:eR (L.getD j E0)=false∨(0<j∧ ¬c9 (L.getD (j - 1) E0) (L.getD j E0)<0)):shR L=false:=by
 rw [Bool.eq_false_iff]
 intro hs
 simp only [shR,bAE] at hs
 have h2:=(gZ L).1 hs.2 j hj
 rcases h with h|h
 · rw [h] at h2;exact Bool.noConfusion h2.1
 · exact h.2 (h2.2 h.1)
theorem CD(hl:L.length<=128)(h:k7 L):shR L=true:=by
 simp only [shR,bAE,decide_eq_true_eq]
 exact ⟨hl,(gZ L).2 h⟩
theorem NX(hl: ¬L.length<=128):shR L=false:=by simp [shR,hl]
attribute [local irreducible] vc
theorem J6(L:List Ent)(hL:L.length<=1000000)(hS: ∀ i,enS (L.getD i E0)):GFn 112 (fun A=> [aF eE E0 8 A fun _=>L]) (fun A=> .bool (A.tb fun _=>shR L)):=by
 refine aC yR ar ak Tryz.func112 (.one) fun A hA=> ?_
 cbv
 repeat' (first| (with_reducible first|exact vT|exact vD hA|exact vE hA|refine vA ?_ ?_) | (intro hc;cbv))
 rotate_right
 all_goals first
  | (fail_if_success (refine Exists.intro ?_ ?_)
     subst hA
     simp [sS] at*
     first|done| (exact NX (by omega)))
  |skip
 have hl:L.length<=128:=by subst hA;simp [sS] at hc;omega
 clear hc
 refine ⟨⟨{i:Nat // i<=L.length∧ ∀ j,j<i->eR (L.getD j E0)=true∧(0<j->c9 (L.getD (j - 1) E0) (L.getD j E0)<0)},fun b i=> [(3, .int .i64 (i.1:Nat))],fun b i=> [],fun i=>L.length - i.1,true⟩,⟨⟨0,by omega,by simp⟩, ?_⟩, ?_⟩
 · cbv
   subst hA
   simp [-List.getD_eq_getElem?_getD,sS]
 · rintro ⟨i,hx⟩
   have hi:=hx.1
   have hz:=hx.2
   have hSi:=hS i
   obtain ⟨e,he⟩: ∃ e,e=L.getD i E0:=⟨_,rfl⟩
   obtain ⟨q,hq⟩: ∃ q,q=L.getD (i - 1) E0:=⟨_,rfl⟩
   have hg:L.getD i { s:=0,r:= [],st:=0,pan:= [],am:=0,code:= [],tr:=0,ca:=0 } =e:=he.symm
   have hw:IntKind.i64.wrap ((i:Int) - 1)=(i:Int) - 1:=w64 (by omega)
   have hg2:L.getD ((i:Int) - 1).toNat { s:=0,r:= [],st:=0,pan:= [],am:=0,code:= [],tr:=0,ca:=0 } =q:=by
    rw [hq,show ((i:Int) - 1).toNat=i - 1 by omega];rfl
   have hg3:L.getD (i - 1) { s:=0,r:= [],st:=0,pan:= [],am:=0,code:= [],tr:=0,ca:=0 } =q:=hq.symm
   have hno:=P3 (L:=L) (j:=i)
   have hyes:=fun h=>CD (L:=L) hl h
   rw [<-he] at hSi hno
   rw [<-hq] at hno
   rcases Nat.lt_or_ge i L.length with hlt|hge
   · have hno:=hno hlt
     cbv
     repeat' (first| (with_reducible first|exact vT|exact vD hA|exact vE hA|refine vA ?_ ?_) | (intro hc;cbv))
     all_goals first
      | (fail_if_success (refine Exists.intro ?_ ?_)
         subst hA
         simp [-List.getD_eq_getElem?_getD,sS,hg,hg2,hg3,hw] at*
         first
          |done
          |omega
          |exact hSi
          | (intros;omega)
          | (intro h1 h2;exact ⟨⟨h1,h2⟩,(show (1:Int)<=((i:Nat):Int) by omega),(show ((i:Nat):Int) - 1<((L.length:Nat):Int) by omega)⟩)
          | (intro h1 h2;exact ⟨⟨h1,h2⟩,hlt⟩)
          | (intro h1;exact ⟨h1,fun h2=>⟨h1,h2⟩⟩)
          |exact hno (by rcases hc with h|h;exact .inl h;exact .inr ⟨h.1,by unfold c9;omega⟩)
)
      | (obtain ⟨i',hi'⟩: ∃ i',i'=i+1:=⟨_,rfl⟩
         have hst:eR e=true∧(0<i->c9 q e<0):=by
          subst hA
          simp [-List.getD_eq_getElem?_getD,sS,hg,hg2,hg3,hw] at hc
          exact ⟨hc.1,fun h=>by have:=hc.2 h;unfold c9;omega⟩
         refine ⟨⟨i',by omega,fun j hj=> ?_⟩, ?_,show L.length - i'<L.length - i by omega⟩
         · rcases Nat.lt_or_ge j i with h|h
           · exact hz j h
           · obtain rfl:j=i:=by omega
             rw [<-he,<-hq];exact hst
         · cbv
           subst hA
           simp [-List.getD_eq_getElem?_getD,sS]
           exact cC hi' (by omega))
   · have hie:i=L.length:=by omega
     have hall:shR L=true:=hyes fun j hj=>hz j (by omega)
     cbv
     repeat' (first| (with_reducible first|exact vT|exact vD hA|exact vE hA|refine vA ?_ ?_) | (intro hc;cbv))
     all_goals first
      | (fail_if_success (refine Exists.intro ?_ ?_)
         clear hz
         subst hA
         simp [-List.getD_eq_getElem?_getD,sS,hg,hg2,hg3,hw,hall] at*
         first
          |done
          |omega)
      | (exfalso;clear hz;subst hA;simp [-List.getD_eq_getElem?_getD,sS] at hc;omega)
      | (exfalso;clear hz;subst hA;rename_i q;simp [-List.getD_eq_getElem?_getD,sS] at q;omega)
end Go.Vd
namespace Go.Vd
open Go.Proofs
variable {r:List UInt8} {L:List Ent} {s:Int}
noncomputable def LP:Ct:=fun A args=>match args with
 | [.slc n 8 f] =>some (some (A.tp fun _=>ai eE E0 8 n f∧n<=1000000∧ ∀ i,enS ((ab eE E0 8 n f).getD i E0)), .bool (A.tb fun _=>shR (ab eE E0 8 n f)))
 |_=>none
noncomputable def gs1:Ar->Pu:=aq 112 LP (gc2)
theorem P4:az Tryz.prog gl0 (gs1 std):=by
 refine ao (yR) ⟨_,Tryz.func112,rfl,by decide⟩ ?_
 · intro args p r h hp
   unfold LP at h
   split at h<;>cases h
   exact aJ (J6 _ (by rw [aN hp.1];exact hp.2.1) hp.2.2) ⟨hp.1.sv,trivial⟩
def kE (s:Int)(r:List UInt8)(e:Ent):Bool:=decide (e.s=s)&& decide (e.r=r)
def fnd (L:List Ent)(s:Int)(r:List UInt8):Ent:=(L.find? (kE s r)).getD E0
def has (L:List Ent)(s:Int)(r:List UInt8):Bool:=L.any (kE s r)
def u6 (A:Ar)(e:Unit->Ent):SV:= .agg [.int .u32 (A.ti fun _=>(e ()).s), .str (A.ts fun _=>(e ()).r), .int .i64 (A.ti fun _=>(e ()).st), .str (A.ts fun _=>(e ()).pan), .int .u64 (A.ti fun _=>(e ()).am), .str (A.ts fun _=>(e ()).code), .int .i64 (A.ti fun _=>(e ()).tr), .int .i64 (A.ti fun _=>(e ()).ca)]
theorem eF{e:Ent} :kE s r e=true↔e.s=s∧e.r=r:=by simp [kE]
theorem Ej{e:Ent}(h: ¬(e.s=s∧e.r=r)):kE s r e=false:=by
 rw [Bool.eq_false_iff];intro h';exact h (eF.1 h')
theorem NY{i:Nat}(hi:i<L.length)(h0: ∀ j,j<i->kE s r (L.getD j E0)=false)(h:kE s r (L.getD i E0)=true):fnd L s r=L.getD i E0∧has L s r=true:=by
 have hf:L.find? (kE s r)=some (L.getD i E0):=by
  rw [List.find?_eq_some_iff_getElem]
  refine ⟨h,i,hi,by simp [List.getD_eq_getElem?_getD,hi],fun j hj=> ?_⟩
  have:=h0 j hj
  rw [List.getD_eq_getElem?_getD,gEE (by omega)] at this
  simpa using this
 constructor
 · unfold fnd;rw [hf];rfl
 · unfold has
   rw [List.any_eq_true]
   exact ⟨L.getD i E0,by rw [List.getD_eq_getElem?_getD,gEE hi];exact List.getElem_mem hi,h⟩
theorem P5(h0: ∀ j,j<L.length->kE s r (L.getD j E0)=false):fnd L s r=E0∧has L s r=false:=by
 have hx: ∀ x∈L,¬kE s r x=true:=fun x hx=>by
  obtain ⟨j,hj,rfl⟩:=List.getElem_of_mem hx
  have:=h0 j hj
  rw [List.getD_eq_getElem?_getD,gEE hj] at this
  simpa using this
 constructor
 · unfold fnd;rw [List.find?_eq_none.2 hx];rfl
 · unfold has;rw [List.any_eq_false];exact hx
attribute [local irreducible] vc
theorem Bi(L:List Ent)(s:Int)(r:List UInt8)(hL:L.length<=1000000):GFn 114 (fun A=> [aF eE E0 8 A fun _=>L, .agg [.int .u32 s, .str r]]) (fun A=> .tup [u6 A fun _=>fnd L s r, .bool (A.tb fun _=>has L s r)]):=by
 refine aC aP ar ak Tryz.func114 (.one) fun A hA=> ?_
 cbv
 repeat' (first| (with_reducible first|exact vT|exact vD hA|exact vE hA|refine vA ?_ ?_) | (intro hc;cbv))
 refine ⟨⟨{i:Nat // i<=L.length∧ ∀ j,j<i->kE s r (L.getD j E0)=false},fun b i=> [(6, .int .i64 (i.1:Nat))],fun b i=> [],fun i=>L.length - i.1,true⟩,⟨⟨0,by omega,by simp⟩, ?_⟩, ?_⟩
 · cbv
   subst hA
   simp [-List.getD_eq_getElem?_getD,sS]
 · rintro ⟨i,hx⟩
   have hi:=hx.1
   have hz:=hx.2
   obtain ⟨e,he⟩: ∃ e,e=L.getD i E0:=⟨_,rfl⟩
   have hg:L.getD i { s:=0,r:= [],st:=0,pan:= [],am:=0,code:= [],tr:=0,ca:=0 } =e:=he.symm
   rcases Nat.lt_or_ge i L.length with hlt|hge
   · have hyes:=NY (s:=s) (r:=r) hlt hz
     rw [<-he] at hyes
     cbv
     repeat' (first| (with_reducible first|exact vT|exact vD hA|exact vE hA|refine vA ?_ ?_) | (intro hc;cbv))
     all_goals first
      | (fail_if_success (refine Exists.intro ?_ ?_)
         clear hz
         subst hA
         simp [-List.getD_eq_getElem?_getD,sS,hg] at*
         first
          |done
          |omega
          | (rw [(hyes (eF.2 hc)).1];done)
          |exact (hyes (eF.2 hc)).2
)
      | (obtain ⟨i',hi'⟩: ∃ i',i'=i+1:=⟨_,rfl⟩
         have hst:kE s r e=false:=by
          clear hz hyes
          subst hA
          simp [-List.getD_eq_getElem?_getD,sS,hg] at hc
          exact Ej fun h=>hc h.1 h.2
         refine ⟨⟨i',by omega,fun j hj=> ?_⟩, ?_,show L.length - i'<L.length - i by omega⟩
         · rcases Nat.lt_or_ge j i with h|h
           · exact hz j h
           · obtain rfl:j=i:=by omega
             rw [<-he];exact hst
         · cbv
           subst hA
           simp [-List.getD_eq_getElem?_getD,sS]
           exact cC hi' (by omega))
   · have hie:i=L.length:=by omega
     have hall:=P5 (L:=L) (s:=s) (r:=r) fun j hj=>hz j (by omega)
     cbv
     repeat' (first| (with_reducible first|exact vT|exact vD hA|exact vE hA|refine vA ?_ ?_) | (intro hc;cbv))
     all_goals first
      | (fail_if_success (refine Exists.intro ?_ ?_)
         clear hz
         subst hA
         simp [-List.getD_eq_getElem?_getD,sS,hg,hall] at*
         first
          |done
          |omega
          |rfl
)
      | (exfalso;clear hz;subst hA;simp [-List.getD_eq_getElem?_getD,sS] at hc;omega)
      | (exfalso;clear hz;subst hA;rename_i q;simp [-List.getD_eq_getElem?_getD,sS] at q;omega)
noncomputable def yS:Ct:=fun A args=>match args with
 | [.slc n 8 f, .agg [.int .u32 s, .str r]] =>some (some (A.tp fun _=>ai eE E0 8 n f∧n<=1000000), .tup [u6 A fun _=>fnd (ab eE E0 8 n f) s r, .bool (A.tb fun _=>has (ab eE E0 8 n f) s r)])
 |_=>none
noncomputable def gs2:Ar->Pu:=aq 114 yS (gs1)
theorem GS:az Tryz.prog gl0 (gs2 std):=by
 refine ao (P4) ⟨_,Tryz.func114,rfl,by decide⟩ ?_
 · intro args p r h hp
   unfold yS at h
   split at h<;>cases h
   exact aJ (Bi _ _ _ (by rw [aN hp.1];exact hp.2)) ⟨hp.1.sv,⟨_,rfl,rfl,rfl,trivial⟩,trivial⟩
def ltK (s:Int)(r:List UInt8)(e:Ent):Bool:=decide (c8 e.s e.r s r<0)
def pos (L:List Ent)(s:Int)(r:List UInt8):Nat:=(L.takeWhile (ltK s r)).length
theorem GT(L:List Ent)(s:Int)(r:List UInt8):pos L s r<=L.length:=by
 unfold pos
 exact (List.takeWhile_prefix _).length_le
theorem P6{i:Nat}(hi:i<=L.length)(h1: ∀ j,j<i->ltK s r (L.getD j E0)=true)(h2:i<L.length->ltK s r (L.getD i E0)=false):pos L s r=i:=by
 unfold pos
 induction L generalizing i with
 |nil=>simp at hi;simp [hi]
 |cons e L ih=>
  cases i with
  |zero=>
   have:=h2 (by simp)
   simp only [List.getD_cons_zero] at this
   rw [List.takeWhile_cons,if_neg (by rw [this];simp)]
   rfl
  |succ i=>
   have h0:=h1 0 (by omega)
   simp only [List.getD_cons_zero] at h0
   rw [List.takeWhile_cons,if_pos h0,List.length_cons,ih (by simpa using hi) (fun j hj=>by simpa using h1 (j+1) (by omega)) (fun h=>by simpa using h2 (by simpa using h))]
theorem qV{s t:Int}{r q:List UInt8} :c8 s r t q<0↔s<t∨(s=t∧r<q):=by
 rw [gA]
 by_cases e:s=t∧r=q
 · rw [if_pos e]
   obtain ⟨rfl,rfl⟩:=e
   constructor
   · intro h;omega
   · rintro (h|h)
     · omega
     · exact absurd h.2 (List.lt_irrefl _)
 · rw [if_neg e]
   by_cases h:s<t∨(s=t∧r<q)
   · rw [if_pos h];simp [h]
   · rw [if_neg h];simp [h]
theorem nB{s t u:Int}{r q p:List UInt8}(h1:c8 s r t q<0)(h2:c8 t q u p<0):c8 s r u p<0:=by
 rw [qV] at*
 rcases h1 with h1| ⟨rfl,h1⟩
 · rcases h2 with h2| ⟨rfl,h2⟩
   · exact .inl (by omega)
   · exact .inl h1
 · rcases h2 with h2| ⟨rfl,h2⟩
   · exact .inl h2
   · exact .inr ⟨rfl,List.lt_trans h1 h2⟩
theorem nC(h:k7 L): ∀ {i j:Nat},i<j->j<L.length->c9 (L.getD i E0) (L.getD j E0)<0
 |i,0,hij,_=>absurd hij (by omega)
 |i,j+1,hij,hj=>by
  have h1:=(h (j+1) hj).2 (by omega)
  rw [Nat.add_sub_cancel] at h1
  rcases Nat.lt_or_ge i j with h2|h2
  · exact nB (nC h h2 (by omega)) h1
  · obtain rfl:i=j:=by omega
    exact h1
theorem rN(h:k7 L){i j:Nat}(hij:i<=j)(hj:j<L.length)(hl:ltK s r (L.getD j E0)=true):ltK s r (L.getD i E0)=true:=by
 rcases Nat.lt_or_ge i j with h2|h2
 · have h3:=nC h h2 hj
   unfold ltK at*
   exact decide_eq_true (nB h3 (of_decide_eq_true hl))
 · obtain rfl:i=j:=by omega
   exact hl
end Go.Vd
namespace Go.Vd
open Go.Proofs
noncomputable def iS3:Nat->Option Func:=bY 191 Tryz.f191 (bY 192 Tryz.f192 noI)
theorem P7:gF Tryz.prog iS3:=bc (bc ak Tryz.func192 (by kernel_rfl)) Tryz.func191 (by kernel_rfl)
def J7 (L:List Ent)(s:Int)(r:List UInt8)(i j:Nat):Prop:=i<=j∧j<=L.length∧(∀ t,t<i->ltK s r (L.getD t E0)=true)∧ ∀ t,j<=t->t<L.length->ltK s r (L.getD t E0)=false
theorem P8{i j m:Nat}(hm:m=(i+j) / 2)(hi:i<=1000000000)(hj:j<=1000000000):std.conv .i64 (std.shr .u64 (std.conv .u64 (std.add .i64 (Int.ofNat i) (Int.ofNat j))) 1)=Int.ofNat m:=by
 show IntKind.i64.wrap ((IntKind.u64.wrap (IntKind.i64.wrap ((i:Int)+(j:Int)))).fdiv (2 ^(min (1:Int).toNat IntKind.u64.bits)))=(m:Int)
 have e0:IntKind.i64.wrap ((i:Int)+(j:Int))=(i:Int)+(j:Int):=w64 (by omega)
 have e1:IntKind.u64.wrap ((i:Int)+(j:Int))=(i:Int)+(j:Int):=by rw [IntKind.wrap_u64];omega
 have e2:(2:Int)^(min (1:Int).toNat IntKind.u64.bits)=2:=by decide
 rw [e0,e1,e2,Int.fdiv_eq_ediv_of_nonneg _ (by decide),w64 (by omega)]
 omega
theorem rP{s:Int}{r:List UInt8}{e:Ent}(h:kE s r e=true):ltK s r e=false:=by
 obtain ⟨h1,h2⟩:=eF.1 h
 unfold ltK
 rw [decide_eq_false]
 rw [gA,if_pos ⟨h1,h2⟩]
 decide
theorem GU{L:List Ent}(hasc:k7 L){s:Int}{r:List UInt8}{i:Nat}(h1: ∀ t,t<i->ltK s r (L.getD t E0)=true)(h2: ∀ t,i<=t->t<L.length->ltK s r (L.getD t E0)=false):
 has L s r=true↔i<L.length∧kE s r (L.getD i E0)=true:=by
 constructor
 · intro h
   unfold has at h
   rw [List.any_eq_true] at h
   obtain ⟨x,hx,hk⟩:=h
   obtain ⟨t,ht,rfl⟩:=List.getElem_of_mem hx
   have hgt:L[t] =L.getD t E0:=by simp [List.getD_eq_getElem?_getD,ht]
   rw [hgt] at hk
   have hti:i<=t:=by
    rcases Nat.lt_or_ge t i with h|h
    · have:=h1 t h
      rw [rP hk] at this
      cases this
    · exact h
   rcases Nat.lt_or_ge i t with h|h
   · have h3:=nC hasc h ht
     have h4:=h2 i (Nat.le_refl _) (by omega)
     obtain ⟨k1,k2⟩:=eF.1 hk
     unfold ltK at h4
     unfold c9 at h3
     rw [k1,k2] at h3
     rw [decide_eq_true h3] at h4
     cases h4
   · obtain rfl:t=i:=by omega
     exact ⟨ht,hk⟩
 · rintro ⟨h,hk⟩
   unfold has
   rw [List.any_eq_true]
   exact ⟨_,by rw [List.getD_eq_getElem?_getD,gEE h];exact List.getElem_mem h,hk⟩
attribute [local irreducible] vc
theorem yT(L:List Ent)(s:Int)(r:List UInt8)(hL:L.length<=1000000)(hasc:k7 L):GFn 142 (fun A=> [aF eE E0 8 A fun _=>L, .agg [.int .u32 s, .str r]]) (fun A=> .tup [.int .i64 (A.ti fun _=>(pos L s r:Int)), .bool (A.tb fun _=>has L s r)]):=by
 refine aC GS ar P7 Tryz.func142 (.one) fun A hA=> ?_
 cbv
 repeat' (first| (with_reducible first|exact vT|exact vD hA|exact vE hA|refine vA ?_ ?_) | (intro hc;cbv))
 obtain ⟨n0,hn0⟩: ∃ n0,n0=L.length:=⟨_,rfl⟩
 refine ⟨⟨{p:Nat×Nat // J7 L s r p.1 p.2},fun b p=> [(5, .int .i64 (p.1.1:Nat)),(6, .int .i64 (p.1.2:Nat))],fun b p=> [],fun p=>p.1.2 - p.1.1,true⟩,⟨⟨(0,n0),by omega,by omega,by simp,fun t h1 h2=>absurd h1 (by omega)⟩, ?_⟩, ?_⟩
 · cbv
   subst hA
   simp [-List.getD_eq_getElem?_getD,sS,hn0]
 · rintro ⟨⟨i,j⟩,hx⟩
   have hij:i<=j:=hx.1
   have hjL:j<=L.length:=hx.2.1
   have h1: ∀ t,t<i->ltK s r (L.getD t E0)=true:=hx.2.2.1
   have h2: ∀ t,j<=t->t<L.length->ltK s r (L.getD t E0)=false:=hx.2.2.2
   rcases Nat.lt_or_ge i j with hlt|hge
   · obtain ⟨m,hm⟩: ∃ m,m=(i+j) / 2:=⟨_,rfl⟩
     have hmi:i<=m:=by omega
     have hmj:m<j:=by omega
     have hmL:m<L.length:=by omega
     obtain ⟨e,he⟩: ∃ e,e=L.getD m E0:=⟨_,rfl⟩
     have hg:L.getD m { s:=0,r:= [],st:=0,pan:= [],am:=0,code:= [],tr:=0,ca:=0 } =e:=he.symm
     have hyes:ltK s r e=true->J7 L s r (m+1) j:=fun hk=>⟨by omega,hjL,fun t ht=>rN hasc (show t<=m by omega) hmL (he▸hk),h2⟩
     have hno:ltK s r e=false->J7 L s r i m:=fun hk=>⟨hmi,by omega,h1,fun t ht1 ht2=>by
      cases hq:ltK s r (L.getD t E0)
      · rfl
      · have:=rN hasc ht1 ht2 hq
        rw [<-he,hk] at this
        cases this⟩
     have hmid:=P8 hm (by omega) (by omega)
     cbv
     repeat' (first| (with_reducible first|exact vT|exact vD hA|exact vE hA|refine vA ?_ ?_) | (intro hc;cbv))
     all_goals first
      | (fail_if_success (refine Exists.intro ?_ ?_)
         clear h1 h2 hyes hno
         subst hA
         simp only [hmid] at*
         simp [-List.getD_eq_getElem?_getD,sS,hg] at*
         first
          |done
          |exact ⟨(show (0:Int)<=((m:Nat):Int) by omega),(show ((m:Nat):Int)<((L.length:Nat):Int) by omega)⟩
          |omega
          | (exfalso;omega)
)
      | (obtain ⟨m',hm'⟩: ∃ m',m'=m+1:=⟨_,rfl⟩
         have hk:ltK s r e=true:=by
          clear h1 h2 hyes hno
          subst hA
          simp only [hmid] at hc
          simp [-List.getD_eq_getElem?_getD,sS,hg] at hc
          exact decide_eq_true hc
         refine ⟨⟨(m',j),by rw [hm'];exact hyes hk⟩, ?_,show j - m'<j - i by omega⟩
         cbv
         subst hA
         simp only [hmid]
         simp [-List.getD_eq_getElem?_getD,sS]
         exact cC hm' (by omega))
      | (have hk:ltK s r e=false:=by
          clear h1 h2 hyes hno
          subst hA
          simp only [hmid] at hc
          simp [-List.getD_eq_getElem?_getD,sS,hg] at hc
          exact decide_eq_false (by omega)
         refine ⟨⟨(i,m),hno hk⟩, ?_,show m - i<j - i by omega⟩
         cbv
         subst hA
         simp only [hmid]
         simp [-List.getD_eq_getElem?_getD,sS])
   · obtain rfl:i=j:=by omega
     have hp:pos L s r=i:=P6 hjL h1 fun h=>h2 i (Nat.le_refl _) h
     have hhas:=GU hasc h1 h2
     obtain ⟨e,he⟩: ∃ e,e=L.getD i E0:=⟨_,rfl⟩
     have hg:L.getD i { s:=0,r:= [],st:=0,pan:= [],am:=0,code:= [],tr:=0,ca:=0 } =e:=he.symm
     rw [<-he] at hhas
     rw [eF] at hhas
     cbv
     repeat' (first| (with_reducible first|exact vT|exact vD hA|exact vE hA|refine vA ?_ ?_) | (intro hc;cbv))
     all_goals first
      | (exfalso
         clear h1 h2
         subst hA
         first
          | (simp [-List.getD_eq_getElem?_getD,sS] at hc;done)
          | (rename_i q;simp [-List.getD_eq_getElem?_getD,sS] at q;done))
      | (clear h1 h2
         subst hA
         simp [-List.getD_eq_getElem?_getD,sS,hg,hp] at*
         first
          |done
          |omega
          | (intros;omega)
          | (rw [Bool.eq_iff_iff,hhas];simp;done)
          | (rw [Bool.eq_iff_iff,hhas];simp;omega)
)
noncomputable def wn:Ct:=fun A args=>match args with
 | [.slc n 8 f, .agg [.int .u32 s, .str r]] =>some (some (A.tp fun _=>ai eE E0 8 n f∧n<=1000000∧uZ (ab eE E0 8 n f)=true), .tup [.int .i64 (A.ti fun _=>(pos (ab eE E0 8 n f) s r:Int)), .bool (A.tb fun _=>has (ab eE E0 8 n f) s r)])
 |_=>none
noncomputable def gs3:Ar->Pu:=aq 142 wn (gs2)
theorem P9:az Tryz.prog gl0 (gs3 std):=by
 refine ao (GS) ⟨_,Tryz.func142,rfl,by decide⟩ ?_
 · intro args p r h hp
   unfold wn at h
   split at h<;>cases h
   exact aJ (yT _ _ _ (by rw [aN hp.1];exact hp.2.1) ((gZ _).1 hp.2.2)) ⟨hp.1.sv,⟨_,rfl,rfl,rfl,trivial⟩,trivial⟩
end Go.Vd
namespace Go.Vd
open Go.RowKit
theorem yU{α:Type}(C news:List α)(K N s:Nat)(hK:K<=N)(hN:N+s<=C.length)(hn:news.length=s):
 (((C.take (K+s)++(C.take N).drop K++C.drop (K+s+((C.take N).drop K).length)).take K++news++(C.take (K+s)++(C.take N).drop K++C.drop (K+s+((C.take N).drop K).length)).drop (K+s))).take (N+s)=
   (C.take N).take K++news++(C.take N).drop K:=by
 have l1:(C.take (K+s)).length=K+s:=by rw [List.length_take];omega
 have l2:((C.take N).drop K).length=N - K:=by rw [List.length_drop,List.length_take];omega
 have e1:(C.take (K+s)++(C.take N).drop K++C.drop (K+s+((C.take N).drop K).length)).take K=C.take K:=by
  rw [List.append_assoc,List.take_append,show K - (C.take (K+s)).length=0 by omega,List.take_zero,List.append_nil,List.take_take,show min K (K+s)=K by omega]
 have e2:(C.take (K+s)++(C.take N).drop K++C.drop (K+s+((C.take N).drop K).length)).drop (K+s)=(C.take N).drop K++C.drop (K+s+((C.take N).drop K).length):=by
  rw [List.append_assoc,List.drop_append,List.drop_of_length_le (by omega),List.nil_append,l1,show K+s - (K+s)=0 by omega,List.drop_zero]
 rw [e1,e2,<-List.append_assoc,List.take_append]
 have l3:(C.take K++news++(C.take N).drop K).length=N+s:=by rw [List.length_append,List.length_append,l2,hn,List.length_take];omega
 rw [l3,List.take_of_length_le (by omega),show N+s - (N+s)=0 by omega,List.take_zero,List.append_nil,List.take_take,show min K N=K by omega]
theorem wo{α:Type}(R xs news cs Z:List α)(K N s:Nat)(hK:K<=N)(hx:xs.length=N)(hR:R=xs.take K++Z)(hRl:N+s<=R.length)(hn:news.length=s)(hc:cs=xs.drop K):
 ((R.take K++news++R.drop (K+news.length)).take (K+s)++cs++(R.take K++news++R.drop (K+news.length)).drop (K+s+cs.length)).take (N+s)=xs.take K++news++xs.drop K:=by
 have l0:(xs.take K).length=K:=by rw [List.length_take];omega
 have e0:R.take K=xs.take K:=by rw [hR,List.take_append,l0,show K - K=0 by omega,List.take_zero,List.append_nil,List.take_take,show min K K=K by omega]
 have l1:(R.take K++news).length=K+s:=by rw [e0,List.length_append,l0,hn]
 have e1:(R.take K++news++R.drop (K+news.length)).take (K+s)=R.take K++news:=by
  rw [List.take_append,l1,show K+s - (K+s)=0 by omega,List.take_zero,List.append_nil,List.take_of_length_le (by omega)]
 rw [e1,e0,hc]
 have l2:(xs.take K++news++xs.drop K).length=N+s:=by rw [List.length_append,List.length_append,l0,hn,List.length_drop];omega
 rw [List.take_append,l2,show N+s - (N+s)=0 by omega,List.take_zero,List.append_nil,List.take_of_length_le (by omega)]
def l7 (g:Nat->Nat->SV)(k:Nat)(h:Nat->Nat->SV):Nat->Nat->SV:=fun a b=>if a<k then g a b else if a=k then h 0 b else g (a - 1) b
theorem CE{w:World}{rw:Nat->Prop}{s n k:Nat}{xs news:List Value}{g h:Nat->Nat->SV}(hs:0<s)(hk:k<=n)(hxl:xs.length=n*s)(hnl:news.length=s)
 (hrel: ∀ i j u,i<n->j<s->xs[i*s+j]? =some u->RelC w rw u (g i j)) (hnR: ∀ j u,news[j]? =some u->RelC w rw u (h 0 j)) {i j:Nat} {u:Value} (hi:i<n+1) (hj:j<s)
 (hu:(xs.take (k*s)++news++xs.drop (k*s))[i*s+j]? =some u):RelC w rw u (l7 g k h i j):=by
 have hks:k*s<=n*s:=Nat.mul_le_mul_right s hk
 have l0:(xs.take (k*s)).length=k*s:=by rw [List.length_take];omega
 unfold l7
 rcases Nat.lt_trichotomy i k with hlt|rfl|hgt
 · rw [if_pos hlt]
   have h1:(i+1)*s<=k*s:=Nat.mul_le_mul_right s hlt
   rw [Nat.add_mul] at h1
   rw [List.append_assoc,List.getElem?_append_left (by omega),List.getElem?_take_of_lt (by omega)] at hu
   exact hrel i j u (by omega) hj hu
 · rw [if_neg (by omega),if_pos rfl]
   rw [List.append_assoc,List.getElem?_append_right (by omega),l0,List.getElem?_append_left (by omega),show i*s+j - i*s=j by omega] at hu
   exact hnR j u hu
 · rw [if_neg (by omega),if_neg (by omega)]
   have h1:(k+1)*s<=i*s:=Nat.mul_le_mul_right s hgt
   have h2:i*s=(i - 1)*s+s:=by rw [<-Nat.succ_mul];congr 1;omega
   rw [Nat.add_mul] at h1
   rw [List.getElem?_append_right (by rw [List.length_append,l0,hnl];omega),List.length_append,l0,hnl,List.getElem?_drop] at hu
   rw [show k*s+(i*s+j - (k*s+s))=(i - 1)*s+j by omega] at hu
   exact hrel (i - 1) j u (by omega) hj hu
section
variable {P:Program}
theorem iP(w:World){ops:Array Oper}{rest:List Oper}{o:Oper}{a:Act}{Q:Exit->Act->World->Prop}(hgd:o.guard=none)(d s:Operand)(t t':TypeId)
 (ho:o.op= .call { callee:= .builtin .copy,args:= #[d,s],argTypes:= #[t,t'] }) (v u:Value) (hd:a.eval d=v) (hs:a.eval s=u) {v':Value} {w':World}
 (hr:(Builtin.copy_ #[t,t'] o.type #[v,u]).run P w= .ok v' w') (h:wpList P ops Q rest (a.put o.dst v') w'):wpList P ops Q (o::rest) a w:=
 wpList_plain hgd fun _ hK=>aU (by
  simp only [execOp,ho,resolve,invoke,builtin,Sem.run_bind,Sem.run_pure,Result.andThen_ok,List.map_toArray,List.map_cons,List.map_nil,hd,hs,hr]) (hK _ _ h)
theorem fH(w:World){ops:Array Oper}{rest:List Oper}{o:Oper}{a:Act}{Q:Exit->Act->World->Prop}(hgd:o.guard=none)(d s:Operand)(t t':TypeId)
 (ho:o.op= .call { callee:= .builtin .append,args:= #[d,s],argTypes:= #[t,t'] }) (v u:Value) (hd:a.eval d=v) (hs:a.eval s=u) {v':Value} {w':World}
 (hr:(Builtin.append_ #[t,t'] o.type #[v,u]).run P w= .ok v' w') (h:wpList P ops Q rest (a.put o.dst v') w'):wpList P ops Q (o::rest) a w:=
 wpList_plain hgd fun _ hK=>aU (by
  simp only [execOp,ho,resolve,invoke,builtin,Sem.run_bind,Sem.run_pure,Result.andThen_ok,List.map_toArray,List.map_cons,List.map_nil,hd,hs,hr]) (hK _ _ h)
theorem kj{ops:Array Oper}{o:Oper}{a:Act}{w:World}{K:Act->World->Prop}{Q:Exit->Act->World->Prop}{E:Prop}
 (hg:o.guard=none) (d x:Operand) (dT sT:TypeId) (hop:o.op=Op.call { callee:=Callee.builtin Builtin.copy,args:= #[d,x],argTypes:= #[dT,sT] })
 (v u:Value) (hd:a.eval d=v) (hx:a.eval x=u) {v':Value} {w':World} (hr:(Builtin.copy_ #[dT,sT] o.type #[v,u]).run P w= .ok v' w') (hK:K (a.put o.dst v') w'):
 if Region.wanted o (yielded ops a.tmps)=true then Oper.wp P o a w K Q else E:=by
 have hw:Region.wanted o (yielded ops a.tmps)=true:=by simp [Region.wanted,hg]
 rw [if_pos hw]
 exact aU (by simp only [execOp,hop,resolve,invoke,builtin,Sem.run_bind,Sem.run_pure,Result.andThen_ok,List.map_toArray,List.map_cons,List.map_nil,hd,hx,hr]) hK
theorem Ek{a b:Option Addr}{la ca lb cb:Nat}(f:(a:Option Addr)->(la ca:Nat)->(b:Option Addr)->(lb cb:Nat)->Sem Value)(g:Array Value->Sem Value):
 Extern.SlicesOverlaps.overlaps.match_4 (fun _=>Sem Value) #[.slice a la ca, .slice b lb cb] f g=f a la ca b lb cb:=rfl
theorem qW(w:World)(tS tR e:TypeId)(ht:P.underlying tS=some (.slice e))(size:Nat)(hz: ∀ w,(Go.sizeOf e).run P w= .ok size w)
 (a b:Addr) (la ca lb cb:Nat) (hne:a.block≠b.block) {ca0 cb0:Array Value} {ta tb:TypeId} {ma:Nat×Nat} (hA:w.heap[a.block]? =some (.cells ca0 ta ma)) (hA0:0<ca0.size) (hB:w.heap[b.block]? =some (.cells cb0 tb (0,0))):
 (Extern.SlicesOverlaps.overlaps #[tS,tS] #[tR] #[.slice (some a) la ca, .slice (some b) lb cb]).run P w= .ok (.bool false) w:=by
 have hnb:(a.block !=b.block)=true:=by simpa using hne
 have hnb':(a.block==b.block)=false:=by simpa using hne
 have hsa:w.shape? a.block=some (ta,ca0.size):=by unfold World.shape?;rw [hA]
 have hsb:w.shape? b.block=some (tb,cb0.size):=by unfold World.shape?;rw [hB]
 have hfb: ∀ x,w.frozen? ⟨b.block,x,none⟩=false:=fun x=>by unfold World.frozen?;simp only [hB];simp
 have hfb':w.frozen? b=false:=by unfold World.frozen?;simp only [hB];simp
 obtain ⟨q,hq⟩: ∃ q,ca0.size=q+1:=⟨ca0.size - 1,by omega⟩
 rw [hq] at hsa
 unfold Extern.SlicesOverlaps.overlaps
 rw [Ek]
 by_cases h0:la=0∨lb=0∨size=0
 · simp [run_underlying ht,hz,h0]
 · cases hfa:w.frozen? a<;>cases hfe:w.frozen? { block:=a.block,off:=q+1 }<;>
    simp [run_underlying ht,hz,h0,hnb,hnb',frozen,noView,viewAt,mayBeOne,stringish,shape,Sem.run,hsa,hsb,hfa,hfe,hfb,hfb']
end
end Go.Vd
set_option maxHeartbeats 4000000
namespace Go.Proofs
open Go.RowKit Go.Lib Go.Vd
theorem J8(w:World)(g0 n cap k:Nat)(cur:Array Value)(a:Addr)(c:Nat)(news:List Value)(hk:k<n)(hroom:n+1<=cap)(hcap:cap<=9223372036854775807)
 (hg:isC w g0 cur 69 8) (hcs:cur.size=cap*8) (hone: ∀ v∈cur.toList.take (n*8),v.oneCell'=true) (hnl:news.length=8) (hnc: ∀ j v,news[j]? =some v->w.cell? (a.add j)=some v) (hn1: ∀ v∈news,v.oneCell'=true) (hne:a.block≠g0)
 (hov: ∀ lb cb,(callFunc 193 #[.slice (some a) 1 c, .slice (some ⟨g0,(k+1)*8,none⟩) lb cb]).run Tryz.prog w= .ok (.value (.bool false)) w):
 Calls Tryz.prog 143 #[.slice (some ⟨g0,0,none⟩) n cap, .int .i64 k, .slice (some a) 1 c] w fun e w'=>
  e= .returned (.slice (some ⟨g0,0,none⟩) (n+1) cap)∧ ∃ cur2,isC w' g0 cur2 69 8∧cur2.size=cur.size∧cur2.toList.take ((n+1)*8)=(cur.toList.take (n*8)).take (k*8)++news++(cur.toList.take (n*8)).drop (k*8)∧w.grownBy w' (some g0):=by
 obtain ⟨ii,dd,zz,hi,hd,hs,_⟩:=pW
 have his:ii.size=8:=hs
 obtain ⟨cs1,hcs1⟩: ∃ cs1,cs1=(cur.toList.take (n*8)).drop (k*8):=⟨_,rfl⟩
 have hl1:cs1.length=(n - k)*8:=by rw [hcs1,List.length_drop,List.length_take,Array.length_toList];omega
 have hm1:Nat.min (n+1 - k) (n - k)=n - k:=by simp only [Nat.min_def];split<;>omega
 have hm2:Nat.min 1 (n+1 - k)=1:=by simp only [Nat.min_def];split<;>omega
 obtain ⟨cur1,hcur1⟩: ∃ cur1,cur1=(cur.toList.take ((k+1)*8)++cs1++cur.toList.drop ((k+1)*8+cs1.length)).toArray:=⟨_,rfl⟩
 have hz1:cur1.size=cur.size:=by
  rw [hcur1]
  simp only [List.size_toArray,List.length_append,List.length_take,List.length_drop,Array.length_toList]
  omega
 have hgd:isC w.drew g0 cur 69 8:=hg
 have hcp1: ∀ ty dc sc,(Builtin.copy_ #[73,73] ty #[.slice (some ⟨g0,(k+1)*8,none⟩) (n - k) dc, .slice (some ⟨g0,k*8,none⟩) (n+1 - k) sc]).run Tryz.prog w.drew= .ok (goInt (n - k:Nat)) (w.drew.setRow g0 cur1):=fun ty dc sc=>by
  have h:=dO (P:=Tryz.prog) w.drew 73 73 ty 69 g0 ((k+1)*8) (n - k) dc 8 ⟨g0,k*8,none⟩ (n+1 - k) sc cur 69 cs1 Tryz.underlying73 hi his hgd (by rw [hm1];exact hl1)
   (fun j v hj=>by
     rw [Addr.add_lit,hgd.cell,<-Array.getElem?_toList]
     rw [hcs1,List.getElem?_drop,List.getElem?_take] at hj
     split at hj
     · exact hj
     · cases hj) (by omega) (fun v hv=>hone v (List.mem_of_mem_drop (hcs1▸hv)))
  rw [hm1,<-hcur1] at h
  exact h
 obtain ⟨W1,hW1⟩: ∃ W1,W1=w.drew.setRow g0 cur1:=⟨_,rfl⟩
 have hg1:isC W1 g0 cur1 69 8:=by rw [hW1];exact hgd.set hz1
 have hoth: ∀ b,b≠g0->W1.heap[b]? =w.heap[b]? :=fun b hb=>by
  rw [hW1]
  simp only [World.setRow,Array.getElem?_modify]
  rw [if_neg (fun e=>hb e.symm)]
  rfl
 have hcella: ∀ j,W1.cell? (a.add j)=w.cell? (a.add j):=fun j=>by
  have hb:(a.add j).block=a.block:=b9 a j
  unfold World.cell?
  rw [hb,hoth _ hne]
 obtain ⟨cur2,hcur2⟩: ∃ cur2,cur2=(cur1.toList.take (k*8)++news++cur1.toList.drop (k*8+news.length)).toArray:=⟨_,rfl⟩
 have hz2:cur2.size=cur1.size:=by
  rw [hcur2]
  simp only [List.size_toArray,List.length_append,List.length_take,List.length_drop,Array.length_toList]
  omega
 have hcp2: ∀ ty dc,(Builtin.copy_ #[73,73] ty #[.slice (some ⟨g0,k*8,none⟩) (n+1 - k) dc, .slice (some a) 1 c]).run Tryz.prog W1= .ok (goInt (1:Nat)) (W1.setRow g0 cur2):=fun ty dc=>by
  have h:=dO (P:=Tryz.prog) W1 73 73 ty 69 g0 (k*8) (n+1 - k) dc 8 a 1 c cur1 69 news Tryz.underlying73 hi his hg1 (by rw [hm2];omega)
   (fun j v hj=>by rw [hcella];exact hnc j v hj) (by omega) hn1
  rw [hm2,<-hcur2] at h
  exact h
 rw [<-hW1] at hcp1
 have hfin:cur2.toList.take ((n+1)*8)=(cur.toList.take (n*8)).take (k*8)++news++(cur.toList.take (n*8)).drop (k*8):=by
  rw [hcur2,hcur1,hcs1,hnl,Nat.add_mul,Nat.add_mul,Nat.one_mul]
  simp only [List.toList_toArray]
  exact yU cur.toList news (k*8) (n*8) 8 (by omega) (by rw [Array.length_toList];omega) hnl
 have hgrow:w.grownBy (W1.setRow g0 cur2) (some g0):=by
  refine ⟨?_, ?_, ?_, ?_,fun b hb hne2=> ?_⟩
  · rw [hW1];rfl
  · rw [hW1];rfl
  · rw [hW1];rfl
  · rw [hW1];simp [World.setRow]
  · simp only [World.setRow,Array.getElem?_modify]
    rw [if_neg (fun e=>hne2 (by rw [e])),hoth b (fun e=>hne2 (by rw [e]))]
 have hw1:IntKind.i64.wrap ((k:Int)+1)=(k:Int)+1:=by rw [IntKind.wrap_i64];omega
 have hb1:(0:Int)<=(k:Int)+1:=by omega
 have hin:k<=n:=by omega
 have htn:((k:Int)+1).toNat=k+1:=by omega
 have hb2: ¬(cap=k+1):=by omega
 have hb3:(k:Int)<=(n:Int)+1:=by omega
 have hb4: ¬(cap=k):=by omega
 clear hW1 hcur2 hcur1 hcs1
 go_enter Tryz.func143,Tryz.ntmps143
 go_wp2_with (simp only [hov])
 go_region_law (refine kj rfl _ _ 73 73 rfl _ _ (by simp [Act.eval,Act.put]) (by simp [Act.eval,Act.put]) (hcp1 _ _ _) ?_)
 go_wp2_with (at_builtin;refine iP _ rfl _ _ 73 73 rfl _ _ rfl rfl (hcp2 _ _) ?_)
 go_ret
 exact ⟨rfl,cur2,hg1.set hz2,hz2.trans hz1,hfin,hgrow⟩
theorem GV(w:World)(g0 n k:Nat)(cur:Array Value)(a:Addr)(c:Nat)(news:List Value)(hk:k<n)(hn0:n<=1000000)
 (hg:isC w g0 cur 69 8) (hcs:cur.size=n*8) (hone: ∀ v∈cur.toList.take (n*8),v.oneCell'=true) (hnl:news.length=8) (hnc: ∀ j v,news[j]? =some v->w.cell? (a.add j)=some v) (hn1: ∀ v∈news,v.oneCell'=true) (hab:a.block<w.heap.size):
 Calls Tryz.prog 143 #[.slice (some ⟨g0,0,none⟩) n n, .int .i64 k, .slice (some a) 1 c] w fun e w'=>
  ∃ G cur2,e= .returned (.slice (some ⟨w.heap.size,0,none⟩) (n+1) G)∧n+1<=G∧G<=maxLen∧isC w' w.heap.size cur2 69 8∧cur2.size=G*8∧cur2.toList.take ((n+1)*8)=(cur.toList.take (n*8)).take (k*8)++news++(cur.toList.take (n*8)).drop (k*8)∧w.grownBy w' none:=by
 obtain ⟨ii,dd,zz,hi,hd,hs,_,_,_,hz0,_,_,hzs,_⟩:=pW
 have his:ii.size=8:=hs
 have hib:ii.bytes<=1000:=by
  have:=hi.symm.trans (show Tryz.prog.info? 69=some _ from rfl)
  simp only [Option.some.injEq] at this
  rw [this]
  decide
 rw [his] at hzs
 obtain ⟨xs,hxs⟩: ∃ xs,xs=cur.toList.take (n*8):=⟨_,rfl⟩
 have hxl:xs.length=n*8:=by rw [hxs,List.length_take,Array.length_toList];omega
 have hcell: ∀ j v,xs[j]? =some v->w.cell? ⟨g0,j,none⟩=some v:=fun j v hj=>by
  rw [hg.cell,<-Array.getElem?_toList]
  rw [hxs,List.getElem?_take] at hj
  split at hj
  · exact hj
  · cases hj
 have hg0:g0<w.heap.size:=hg.lt
 rw [<-hxs] at hone ⊢
 obtain ⟨G,hG⟩: ∃ G,G=grownCap w (n+1) n 69:=⟨_,rfl⟩
 have hGn:n+1<=G:=by rw [hG];exact grownCap_ge w _ _ _
 have hGm:G<=maxLen:=by rw [hG];exact grownCap_le_maxLen w (n+1) n 69 (by simp only [maxLen];omega)
 have hG63:G<=9223372036854775807:=hGm
 have hold:(Builtin.firstCells ii.size k (.slice (some ⟨g0,0,none⟩) k n)).run Tryz.prog w.drew= .ok (xs.take (k*8)).toArray w.drew:=by
  rw [his]
  exact run_firstCells_some w.drew 8 k ⟨g0,0,none⟩ k n (xs.take (k*8)) (by rw [List.length_take];omega) (fun j v hj=>by
   rw [Addr.add_lit,Nat.zero_add]
   rw [List.getElem?_take] at hj
   split at hj
   · exact hcell j v hj
   · cases hj)
 have hik:k+(n+1 - k)=n+1:=by omega
 have hkk:(n:Int)+1 - (k:Int)=((n+1 - k:Nat):Int):=by omega
 obtain ⟨ROW,hROW⟩: ∃ ROW:Array Value,ROW=(xs.take (k*8)).toArray++Builtin.zeroCells zz.cells (n+1 - k)++Builtin.zeroCells zz.cells (G - (n+1)):=⟨_,rfl⟩
 have hrz: ∀ ty,(Builtin.append_ #[73,3] ty #[.slice (some ⟨g0,0,none⟩) k n, .int .i64 ((n:Int)+1 - (k:Int))]).run Tryz.prog w=
  .ok (.slice (some ⟨w.heap.size,0,none⟩) (n+1) G) ((w.alloc (.cells ROW 69)).drew):=fun ty=>by
  have h:=Lib.run_append_grow_zeros w 73 3 ty 69 ii zz .i64 .i64 Tryz.underlying73 Tryz.underlying3 hi hz0 (some ⟨g0,0,none⟩) k n (xs.take (k*8)) hold (n+1 - k) (by omega) (by omega) (by omega) (by omega)
   (Nat.le_trans (Nat.mul_le_mul (show n+1 - k<=1000001 by omega) hib) (by decide)) (by rw [hik];exact growslice_fits (by omega) (Nat.le_trans (Nat.mul_le_mul (show n+1<=1000001 by omega) hib) (by decide)))
  rw [hik,<-hG,<-hROW] at h
  rw [hkk]
  exact h
 have hRs:ROW.size=G*8:=by
  rw [hROW]
  simp only [Array.size_append,List.size_toArray,List.length_take,size_zeroCells,hzs,hxl]
  omega
 obtain ⟨Z,hRZ⟩: ∃ Z,ROW.toList=xs.take (k*8)++Z:=⟨(Builtin.zeroCells zz.cells (n+1 - k)++Builtin.zeroCells zz.cells (G - (n+1))).toList,by rw [hROW];simp⟩
 have hg1:isC ((w.alloc (.cells ROW 69)).drew) w.heap.size ROW 69 8:= .of (heap_alloc_new w _)
 obtain ⟨row1,hrow1⟩: ∃ row1,row1=(ROW.toList.take (k*8)++news++ROW.toList.drop (k*8+news.length)).toArray:=⟨_,rfl⟩
 have hz1:row1.size=ROW.size:=by
  rw [hrow1]
  simp only [List.size_toArray,List.length_append,List.length_take,List.length_drop,Array.length_toList]
  omega
 have hmA:Nat.min 1 (n+1 - k)=1:=by simp only [Nat.min_def];split<;>omega
 have hcpA: ∀ ty dc,(Builtin.copy_ #[73,73] ty #[.slice (some ⟨w.heap.size,k*8,none⟩) (n+1 - k) dc, .slice (some a) 1 c]).run Tryz.prog ((w.alloc (.cells ROW 69)).drew)= .ok (goInt (1:Nat)) (((w.alloc (.cells ROW 69)).drew).setRow w.heap.size row1):=fun ty dc=>by
  have h:=dO (P:=Tryz.prog) ((w.alloc (.cells ROW 69)).drew) 73 73 ty 69 w.heap.size (k*8) (n+1 - k) dc 8 a 1 c ROW 69 news Tryz.underlying73 hi his hg1 (by rw [hmA];omega)
   (fun j v hj=>by
     have h1:=hnc j v hj
     have hb:(a.add j).block=a.block:=b9 a j
     unfold World.cell? at h1 ⊢
     rw [hb] at h1 ⊢
     rw [show ((w.alloc (.cells ROW 69)).drew).heap[a.block]? =w.heap[a.block]? from heap_alloc_old w _ hab]
     exact h1) (by omega) hn1
  rw [hmA,<-hrow1] at h
  exact h
 obtain ⟨W2,hW2⟩: ∃ W2,W2=((w.alloc (.cells ROW 69)).drew).setRow w.heap.size row1:=⟨_,rfl⟩
 have hg2:isC W2.drew w.heap.size row1 69 8:=by
  have:isC W2 w.heap.size row1 69 8:=by rw [hW2];exact hg1.set hz1
  exact this
 have hoth: ∀ b,b<w.heap.size->W2.heap[b]? =w.heap[b]? :=fun b hb=>by
  rw [hW2]
  simp only [World.setRow,Array.getElem?_modify]
  rw [if_neg (by omega)]
  exact heap_alloc_old w _ hb
 obtain ⟨row2,hrow2⟩: ∃ row2,row2=(row1.toList.take ((k+1)*8)++xs.drop (k*8)++row1.toList.drop ((k+1)*8+(xs.drop (k*8)).length)).toArray:=⟨_,rfl⟩
 have hdl:(xs.drop (k*8)).length=(n - k)*8:=by rw [List.length_drop,hxl];omega
 have hz2:row2.size=row1.size:=by
  rw [hrow2]
  simp only [List.size_toArray,List.length_append,List.length_take,List.length_drop,Array.length_toList]
  omega
 have hmB:Nat.min (n - k) (n - k)=n - k:=Nat.min_self _
 have hcpB: ∀ ty dc sc,(Builtin.copy_ #[73,73] ty #[.slice (some ⟨w.heap.size,(k+1)*8,none⟩) (n - k) dc, .slice (some ⟨g0,k*8,none⟩) (n - k) sc]).run Tryz.prog W2.drew= .ok (goInt (n - k:Nat)) (W2.drew.setRow w.heap.size row2):=fun ty dc sc=>by
  have h:=dO (P:=Tryz.prog) W2.drew 73 73 ty 69 w.heap.size ((k+1)*8) (n - k) dc 8 ⟨g0,k*8,none⟩ (n - k) sc row1 69 (xs.drop (k*8)) Tryz.underlying73 hi his hg2 (by rw [hmB];exact hdl)
   (fun j v hj=>by
     rw [List.getElem?_drop] at hj
     have h1:=hcell _ v hj
     rw [Addr.add_lit]
     unfold World.cell? at h1 ⊢
     rw [show W2.drew.heap[g0]? =w.heap[g0]? from hoth g0 hg0]
     exact h1) (by omega) (fun v hv=>hone v (List.mem_of_mem_drop hv))
  rw [hmB,<-hrow2] at h
  exact h
 rw [<-hW2] at hcpA
 have hfin:row2.toList.take ((n+1)*8)=xs.take (k*8)++news++xs.drop (k*8):=by
  rw [hrow2,hrow1,Nat.add_mul,Nat.add_mul,Nat.one_mul]
  simp only [List.toList_toArray]
  exact wo ROW.toList xs news (xs.drop (k*8)) Z (k*8) (n*8) 8 (by omega) hxl hRZ (by rw [Array.length_toList];omega) hnl rfl
 have hgrow:w.grownBy (W2.drew.setRow w.heap.size row2) none:=by
  refine ⟨?_, ?_, ?_, ?_,fun b hb _=> ?_⟩
  · rw [hW2];rfl
  · rw [hW2];rfl
  · rw [hW2];rfl
  · rw [hW2]
    show w.heap.size<=(Array.modify _ _ _).size
    rw [Array.size_modify]
    show w.heap.size<=(Array.modify _ _ _).size
    rw [Array.size_modify]
    exact Nat.le_of_lt hg1.lt
  · simp only [World.setRow,Array.getElem?_modify]
    rw [if_neg (by omega)]
    exact hoth b hb
 have hw1:IntKind.i64.wrap ((k:Int)+1)=(k:Int)+1:=by rw [IntKind.wrap_i64];omega
 have hb1:(0:Int)<=(k:Int)+1:=by omega
 have hin:k<=n:=by omega
 have htn:((k:Int)+1).toNat=k+1:=by omega
 have hb2: ¬(G=k+1):=by omega
 have hb3:(k:Int)<=(n:Int):=by omega
 have hb4: ¬(n=k):=by omega
 have hb5: ¬(G=k):=by omega
 clear hkk hik hold hW2 hROW hG hrow1 hrow2 hRZ hdl hxl hcell
 go_enter Tryz.func143,Tryz.ntmps143
 go_wp2_with (first
  | (at_builtin;refine fH _ rfl _ _ 73 3 rfl _ _ rfl rfl (hrz _) ?_)
  | (at_builtin;refine iP _ rfl _ _ 73 73 rfl _ _ rfl rfl (hcpA _ _) ?_))
 go_region_law (refine kj rfl _ _ 73 73 rfl _ _ (by simp [Act.eval,Act.put]) (by simp [Act.eval,Act.put]) (hcpB _ _ _) ?_)
 go_wp2
 go_ret
 exact ⟨G,row2,rfl,hGn,hGm,hg2.set hz2,hz2.trans (hz1.trans hRs),hfin,hgrow⟩
theorem J9(w:World)(a0:Option Addr)(n cap:Nat)(hnc:n<=cap)(hn0:n<=1000000)(a:Addr)(c:Nat)(v':Value)(w':World)
 (hrun: ∀ ty,(Builtin.append_ #[73,73] ty #[.slice a0 n cap, .slice (some a) 1 c]).run Tryz.prog w= .ok v' w'):
 Calls Tryz.prog 143 #[.slice a0 n cap, .int .i64 n, .slice (some a) 1 c] w fun e W=>e= .returned v'∧W=w':=by
 go_enter Tryz.func143,Tryz.ntmps143
 cases a0 with
 |none=>
  go_wp2_with (at_builtin;refine fH _ rfl _ _ 73 73 rfl _ _ rfl rfl (hrun _) ?_)
  all_goals (go_ret;exact ⟨rfl,rfl⟩)
 |some b=>
  obtain ⟨bb,bo,bs⟩:=b
  go_wp2_with (at_builtin;refine fH _ rfl _ _ 73 73 rfl _ _ rfl rfl (hrun _) ?_)
  all_goals (go_ret;exact ⟨rfl,rfl⟩)
theorem NZ(gl:Nat->SV)(n:Nat)(g:Nat->Nat->SV)(i:Int)(h:Nat->Nat->SV)(hi0:0<=i∧i<=(n:Int))(hn0:n<=1000000):
 DM Tryz.prog gl 143 69 8 n g [.int .i64 i, .slc 1 8 h] (n+1) (l7 g i.toNat h):=by
 intro w ρ rw N v vs xs hrw hgl hv hown hone hrel hargs
 obtain ⟨ii,dd,zz,hi,hd,hs,_,_,_,hz0,_,_,hzs,_⟩:=pW
 have his:ii.size=8:=hs
 have hib:ii.bytes<=1000:=by
  have:=hi.symm.trans (show Tryz.prog.info? 69=some _ from rfl)
  simp only [Option.some.injEq] at this
  rw [this]
  decide
 rw [his] at hzs
 match vs,hargs with
 | [v1,v2],⟨r1,r2,_⟩=>
   obtain ⟨k,hk⟩: ∃ k:Nat,i=(k:Int):=⟨i.toNat,by omega⟩
   subst hk
   have hkn:k<=n:=by omega
   rw [Int.toNat_natCast]
   have e1:=r1.eq_int
   subst e1
   cases r2 with
   |slc ad _ c _ _ g2 hc1 hcc hca hcr=>
    obtain ⟨a,rfl,hsp⟩:=hca (by omega)
    obtain ⟨news,hnews⟩: ∃ news,news=(List.range 8).map (g2 0):=⟨_,rfl⟩
    have hnl:news.length=8:=by rw [hnews];simp
    have hnj: ∀ j u,news[j]? =some u->j<8∧u=g2 0 j:=fun j u hj=>by
     rw [hnews,getElem?_range_map] at hj
     split at hj
     · rename_i hlt;exact ⟨hlt,(Option.some.inj hj).symm⟩
     · cases hj
    have hnc: ∀ j u,news[j]? =some u->w.cell? (a.add j)=some u:=fun j u hj=>by
     obtain ⟨hlt,rfl⟩:=hnj j u hj
     obtain ⟨a',ea,q,_,_⟩:=hcc 0 j (by omega) hlt
     cases ea
     rw [Nat.zero_mul,Nat.zero_add] at q
     exact q
    have hn1: ∀ u∈news,u.oneCell'=true:=fun u hu=>by
     obtain ⟨j,hj⟩:=List.mem_iff_getElem?.1 hu
     obtain ⟨hlt,rfl⟩:=hnj j u hj
     obtain ⟨a',ea,_,q,_⟩:=hcc 0 j (by omega) hlt
     exact q
    have hnr: ¬ rw a.block:=by
     obtain ⟨a',ea,_,_,q⟩:=hcc 0 0 (by omega) (by omega)
     cases ea
     exact q
    have hnR: ∀ j u,news[j]? =some u->RelC w rw u (h 0 j):=fun j u hj=>by
     obtain ⟨hlt,rfl⟩:=hnj j u hj
     exact hcr 0 j (by omega) hlt
    have hcell0:w.cell? (a.add 0)=some (g2 0 0):=hnc 0 _ (by rw [hnews];rfl)
    obtain ⟨ca0,ta,ma,hA,hA0⟩: ∃ ca0 ta ma,w.heap[a.block]? =some (.cells ca0 ta ma)∧0<ca0.size:=by
     have hb:(a.add 0).block=a.block:=b9 a 0
     unfold World.cell? at hcell0
     rw [hb] at hcell0
     split at hcell0
     · rename_i c0 e0 m0 heq
       refine ⟨c0,e0,m0,heq, ?_⟩
       split at hcell0
       · cases hcell0
       · have:=(Array.getElem?_eq_some_iff.1 hcell0).1
         omega
     · cases hcell0
    have hab:a.block<w.heap.size:=(Array.getElem?_eq_some_iff.1 hA).1
    have fin: ∀(w':World) (v':Value) (xs':List Value),bD w' 69 8 v' (n+1) xs'->xs'=xs.take (k*8)++news++xs.drop (k*8)->w.grownBy w' (av v)->(∀ b,av v'=some b->av v=some b∨w.heap.size<=b)->
     ∃ v'' xs'',Ending.returned v'= .returned v''∧bD w' 69 8 v'' (n+1) xs''∧(∀ u∈xs'',one u)∧w.grownBy w' (av v)∧(∀ b,av v''=some b->av v=some b∨w.heap.size<=b)∧
       ∀(rw':Nat->Prop),(∀ b,b<w.heap.size->rw' b->rw b)-> ∀ i j u,i<n+1->j<8->xs''[i*8+j]? =some u->RelC w' rw' u (l7 g k h i j):=by
     intro w' v' xs' q1 q2 q3 q4
     have hkeep:Keep rw w w':=⟨q3.os,q3.tape,q3.output,q3.size,fun b hb hr=>q3.block b hb fun e=>hr (hv b e.symm)⟩
     refine ⟨v',xs',rfl,q1,fun u hu=> ?_,q3,q4,fun rw' hrw' i j u hi' hj hu=>(CE (s:=8) (by omega) hkn hown.1 hnl hrel hnR hi' hj (q2▸hu)).mono hkeep hrw'⟩
     rw [q2] at hu
     rcases List.mem_append.1 hu with hu|hu
     · rcases List.mem_append.1 hu with hu|hu
       · exact hone u (List.mem_of_mem_take hu)
       · exact hn1 u hu
     · exact hone u (List.mem_of_mem_drop hu)
    rcases Nat.lt_or_ge k n with hlt|hge
    · have hown2:=hown
      rcases hown.2 with ⟨_,h0⟩ | ⟨g0,cap,cur,rfl,hc0,hC,hnc0,hcm,hcs,htk⟩
      · omega
      · have hne:a.block≠g0:=fun e=>hnr (e▸hv g0 (aV hc0))
        rcases Nat.lt_or_ge cap (n+1) with hf|hroom
        · obtain rfl:cap=n:=by omega
          refine (GV w g0 cap k cur a c news hlt hn0 hC hcs (by rw [htk];exact hone) hnl hnc hn1 hab).mono fun en w' hq=> ?_
          obtain ⟨G,cur2,rfl,p1,p2,p3,p4,p5,p6⟩:=hq
          rw [htk] at p5
          refine fin w' _ _ ⟨?_, .inr ⟨w.heap.size,G,cur2,rfl,by omega,p3,p1,p2,p4,rfl⟩⟩ p5 ⟨p6.os,p6.tape,p6.output,p6.size,fun b hb _=>p6.block b hb (by simp)⟩ fun b hb=> .inr ?_
          · rw [List.length_take,Array.length_toList,p4]
            have:=Nat.mul_le_mul_right 8 p1
            omega
          · rw [aV (by omega)] at hb
            simp only [Option.some.injEq] at hb
            omega
        · obtain ⟨mk,hh,hmk⟩:=hC
          have hplain:w.heap[g0]? =some (.cells cur 69 (0,0)):=by
           rcases hmk with rfl| ⟨_,h1⟩
           · exact hh
           · exact absurd h1 (by decide)
          refine (J8 w g0 n cap k cur a c news hlt hroom hcm ⟨mk,hh,hmk⟩ hcs (by rw [htk];exact hone) hnl hnc hn1 hne (fun lb cb=>by
           rw [run_callFunc_extern Tryz.func193 (by kernel_rfl) (by kernel_rfl) (by kernel_rfl) (e:=Extern.SlicesOverlaps.overlaps #[73,73] #[4]) (by kernel_rfl),
            qW w 73 4 69 Tryz.underlying73 8 (fun w=>by simp [sizeOf,typeInfo,hi,his]) a ⟨g0,(k+1)*8,none⟩ 1 c lb cb hne hA hA0 hplain]
           rfl)).mono fun en w' hq=> ?_
          obtain ⟨rfl,cur2,p1,p2,p3,p4⟩:=hq
          rw [htk] at p3
          refine fin w' _ _ ⟨?_, .inr ⟨g0,cap,cur2,rfl,hc0,p1,hroom,hcm,p2.trans hcs,rfl⟩⟩ p3 (by rw [aV hc0];exact p4) fun b hb=> .inl ?_
          · rw [List.length_take,Array.length_toList,p2,hcs]
            have:=Nat.mul_le_mul_right 8 hroom
            omega
          · rw [aV hc0] at hb ⊢
            exact hb
    · obtain rfl:k=n:=by omega
      obtain ⟨a0,cap,rfl,hcap⟩: ∃ a0 cap,v= .slice a0 k cap∧k<=cap:=by
       rcases hown.2 with ⟨⟨a0,rfl⟩,h0⟩ | ⟨g0,cap,cur,rfl,hc0,hC,hnc0,_⟩
       · exact ⟨a0,0,by rw [h0],by omega⟩
       · exact ⟨_,cap,rfl,hnc0⟩
      have hall: ∀ ty,∃ v' w',(Builtin.append_ #[73,73] ty #[.slice a0 k cap, .slice (some a) 1 c]).run Tryz.prog w= .ok v' w'∧bD w' 69 8 v' (k+1) (xs++news)∧w.grownBy w' (av (.slice a0 k cap))∧
       (∀ b,av v'=some b->av (.slice a0 k cap)=some b∨w.heap.size<=b):=fun ty=>
       dm (P:=Tryz.prog) (ty:=ty) Tryz.underlying73 hi hz0 his rfl hzs (by omega) hown (m:=1) (cp:=c) (by omega) (fun _=>⟨a,rfl,hnc⟩) hn1 (by omega) (Nat.le_trans (Nat.mul_le_mul (show k+1<=1000001 by omega) hib) (by decide))
      obtain ⟨v',w',h1,h2,h3,h4⟩:=hall 0
      have hty: ∀ ty,(Builtin.append_ #[73,73] ty #[.slice a0 k cap, .slice (some a) 1 c]).run Tryz.prog w= .ok v' w':=fun ty=>h1
      refine (J9 w a0 k cap hcap hn0 a c v' w' hty).mono fun en W hq=> ?_
      obtain ⟨rfl,rfl⟩:=hq
      have hxl:=hown.1
      exact fin W v' (xs++news) h2 (by rw [List.take_of_length_le (by omega),List.drop_of_length_le (by omega),List.append_nil]) h3 h4
end Go.Proofs
