/- The call's own memory: a block more, a block turned. -/
import Derived.Test.YtckmnmcnelfkjaaGreatDoorVdPure
set_option linter.unusedVariables false
set_option linter.unusedSimpArgs false
namespace Go.Vd
open Go.RowKit
variable {ρ:Nat->Value} {key:Nat} {U:Nat->Prop} {e:Nat×Blk} {F:Nat->Prop} {m:Mem} {b:Blk} {w:World}
theorem fc : ∀ {m:Mem},e∈ins m key b↔e=(key,b)∨e∈m
 | [] =>by simp [ins]
 | (k,c)::m=>by
   simp only [ins]
   cases Nat.ble k key<;>simp only [cond_true,cond_false,List.mem_cons,fc (m:=m)]
   constructor
   · rintro (h|h|h)<;>simp [h]
   · rintro (h|h|h)<;>simp [h]
theorem cQ : ∀ {m:Mem},e∈del m key->e∈m
 | [],h=>h
 | (k,c)::m,h=>by
   simp only [del] at h
   cases hk:Nat.beq k key<;>simp only [hk,cond_true,cond_false,List.mem_cons] at h
   · rcases h with h|h
     · exact List.mem_cons.2 (.inl h)
     · exact List.mem_cons.2 (.inr (cQ h))
   · exact List.mem_cons.2 (.inr h)
theorem cf.symm{e e':Nat×Blk}(h:cf ρ e e'):cf ρ e' e:=⟨h.1.symm,fun b hb hb'=>h.2 b hb' hb⟩
theorem kT : ∀ {m:Mem},m.Pairwise (cf ρ)->(∀ e∈m,cf ρ (key,b) e)->(ins m key b).Pairwise (cf ρ)
 | [],_,_=>by simp [ins]
 | (k,c)::m,hp,h=>by
   simp only [ins]
   cases Nat.ble k key<;>simp only [cond_true,cond_false]
   · rw [List.pairwise_cons] at hp ⊢
     refine ⟨fun e he=> ?_,kT hp.2 fun e he=>h e (List.mem_cons_of_mem _ he)⟩
     rcases fc.1 he with rfl|he
     · exact (h _ (List.mem_cons_self ..)).symm
     · exact hp.1 e he
   · exact List.pairwise_cons.2 ⟨h,hp⟩
theorem dN : ∀ {m:Mem},m.Pairwise (fun e e'=>e'.1<e.1)->(∀ e∈m,e.1≠key)->(ins m key b).Pairwise fun e e'=>e'.1<e.1
 | [],_,_=>by simp [ins]
 | (k,c)::m,hp,h=>by
   simp only [ins]
   have hk:=h (k,c) (List.mem_cons_self ..)
   have hp':=List.pairwise_cons.1 hp
   cases hb:Nat.ble k key<;>simp only [cond_true,cond_false]
   · refine List.pairwise_cons.2 ⟨fun e he=> ?_,dN hp'.2 fun e he=>h e (List.mem_cons_of_mem _ he)⟩
     rcases fc.1 he with rfl|he
     · have: ¬ k<=key:=fun e=>by rw [Nat.ble_eq_true_of_le e] at hb;cases hb
       simp only;omega
     · exact hp'.1 e he
   · have hle:=Nat.le_of_ble_eq_true hb
     have hlt:k<key:=by simp only at hk;omega
     refine List.pairwise_cons.2 ⟨fun e he=> ?_,hp⟩
     rcases List.mem_cons.1 he with rfl|he
     · exact hlt
     · have h2:=hp'.1 e he
       simp only at h2 ⊢
       omega
theorem gx : ∀ {m:Mem},m.Pairwise (fun e e'=>e'.1<e.1)->(del m key).Pairwise fun e e'=>e'.1<e.1
 | [],_=>by simp [del]
 | (k,c)::m,hp=>by
   rw [List.pairwise_cons] at hp
   simp only [del]
   cases Nat.beq k key<;>simp only [cond_true,cond_false]
   · exact List.pairwise_cons.2 ⟨fun e he=>hp.1 e (cQ he),gx hp.2⟩
   · exact hp.2
theorem fZ : ∀ {m:Mem},m.Pairwise (cf ρ)->(del m key).Pairwise (cf ρ)
 | [],_=>by simp [del]
 | (k,c)::m,hp=>by
   rw [List.pairwise_cons] at hp
   simp only [del]
   cases Nat.beq k key<;>simp only [cond_true,cond_false]
   · exact List.pairwise_cons.2 ⟨fun e he=>hp.1 e (cQ he),fZ hp.2⟩
   · exact hp.2
theorem ia : ∀ {m:Mem},m.Pairwise (cf ρ)->af m key=some b-> ∀ e∈del m key,cf ρ (key,b) e
 | (k,c)::m,hp,hl,e,he=>by
   rw [List.pairwise_cons] at hp
   simp only [af] at hl
   simp only [del] at he
   cases hk:Nat.beq k key<;>simp only [hk,cond_true,cond_false] at hl he
   · rcases List.mem_cons.1 he with rfl|he
     · exact (hp.1 _ (ag hl)).symm
     · exact ia hp.2 hl e he
   · obtain rfl:k=key:=nQE hk
     simp only [sIE] at hl
     subst hl
     exact hp.1 e he
theorem aX(ρ:Nat->Value)(key:Nat)(x:Value):aQ ρ key x key=x:=by simp [aQ]
theorem DH(ρ:Nat->Value){key k:Nat}(x:Value)(h:k≠key):aQ ρ key x k=ρ k:=by simp [aQ,h]
theorem co(hk: ¬ U key)(ρ:Nat->Value)(x:Value): ∀ k,U k->aQ ρ key x k=ρ k:=fun k h=>DH ρ x (fun e=>hk (e▸h))
theorem Ix{ρ ρ':Nat->Value}(h1:ρ' e.1=ρ e.1)(h2: ∀ g,fX ρ' e.2 g↔fX ρ e.2 g)(g:Nat):hasB ρ' e g↔hasB ρ e g:=by simp only [hasB,h1,h2 g]
theorem MemOk.hasB{ρ ρ':Nat->Value}(h:MemOk F w ρ m U)(hρ: ∀ k,U k->ρ' k=ρ k)(he:e∈m)(g:Nat):Vd.hasB ρ' e g↔Vd.hasB ρ e g:=
 Ix (hρ _ (h.key e he)) (Iu (h.blk e he) hρ) g
theorem m9{F F':Nat->Prop}(h:MemOk F' w ρ m U)(hk: ¬ U key)(x:Value)(hkb: ∀ g,¬ fX (aQ ρ key x) b g)(g:Nat):
 ae F (aQ ρ key x) (ins m key b) g↔ae F ρ m g∨av x=some g:=by
 constructor
 · rintro (h'| ⟨e,he,hb⟩)
   · exact .inl (.inl h')
   · rcases fc.1 he with rfl|he
     · rcases hb with hb|hb
       · rw [aX] at hb;exact .inr hb
       · exact (hkb g hb).elim
     · exact .inl (.inr ⟨e,he,(h.hasB (co hk ρ x) he g).1 hb⟩)
 · rintro ((h'| ⟨e,he,hb⟩) |hb)
   · exact .inl h'
   · exact .inr ⟨e,fc.2 (.inr he),(h.hasB (co hk ρ x) he g).2 hb⟩
   · exact .inr ⟨(key,b),fc.2 (.inl rfl), .inl (by rw [aX];exact hb)⟩
theorem oI{F':Nat->Prop}(h:MemOk F' w ρ m U)(hk: ¬ U key)(x:Value)(hkb: ∀ g,¬ fX (aQ ρ key x) b g)(g:Nat):
 bB (aQ ρ key x) (ins m key b) g->bB ρ m g∨av x=some g:=by
 rintro ⟨e,he,hb⟩
 rcases fc.1 he with rfl|he
 · rcases hb with hb|hb
   · rw [aX] at hb;exact .inr hb
   · exact (hkb g hb).elim
 · exact .inl ⟨e,he,(h.hasB (co hk ρ x) he g).1 hb⟩
theorem MemOk.add{w w':World}(h:MemOk F w ρ m U)(hk: ¬ U key)(hx:Ext w w'){x:Value}{b:Blk}
 (hnew: ∀ g,av x=some g->w.heap.size<=g) (hb:dv w' (aQ ρ key x) (fun g=>ae F ρ m g∨av x=some g) (aL U key) key b) (hkb: ∀ g,¬ fX (aQ ρ key x) b g:=by exact fun _ h=>h):
 MemOk F w' (aQ ρ key x) (ins m key b) (aL U key):=by
 have hrw:ae F (aQ ρ key x) (ins m key b)=fun g=>ae F ρ m g∨av x=some g:=funext fun g=>propext (m9 h hk x hkb g)
 refine ⟨fun e he=> ?_,fun e he=> ?_,kT ?_ fun e he=> ?_,fun b hb=>Nat.lt_of_lt_of_le (h.frg b hb) hx.size,dN h.sorted fun e he e'=>hk (by have:=h.key e he;rw [e'] at this;exact this)⟩
 · rw [hrw]
   rcases fc.1 he with rfl|he
   · exact hb
   · refine (h.blk e he).mono (h.key e he) (fun k hk=> .inl hk) (co hk ρ x) (hx.keep _) (fun b hb hr=> ?_) (fun b hb=>hx.block b ((h.blk e he).lt hb) id)
     rcases hr with hr|hr
     · exact hr
     · exact absurd (hnew b hr) (by omega)
 · rcases fc.1 he with rfl|he
   · exact .inr rfl
   · exact .inl (h.key e he)
 · refine h.apart.imp_of_mem fun {e e'} he he' hap=>⟨hap.1,fun b hb hb'=> ?_⟩
   exact hap.2 b ((h.hasB (co hk ρ x) he b).1 hb) ((h.hasB (co hk ρ x) he' b).1 hb')
 · refine ⟨fun e'=>hk (by have:=h.key e he;rw [<-e'] at this;exact this),fun b hb hb'=> ?_⟩
   have hb':=(h.hasB (co hk ρ x) he b).1 hb'
   rcases hb with hb|hb
   · rw [aX] at hb
     have:=(h.blk e he).lt hb'
     have:=hnew b hb
     omega
   · exact hkb b hb
theorem Rel.add{F F':Nat->Prop}{w w' w0:World}(hU:MemOk F' w0 ρ m U)(hk: ¬ U key)(hx:Ext w w'){x:Value}{b:Blk}
 (hnew: ∀ g,av x=some g->w.heap.size<=g) (hkb: ∀ g,¬ fX (aQ ρ key x) b g) {v:Value} {s:SV} (h:Rel w ρ (ae F ρ m) U v s):Rel w' (aQ ρ key x) (ae F (aQ ρ key x) (ins m key b)) (aL U key) v s:=by
 refine h.mono (fun k hk=> .inl hk) (co hk ρ x) (hx.keep _) fun g hg hr=> ?_
 rcases (m9 hU hk x hkb g).1 hr with hr|hr
 · exact hr
 · exact absurd (hnew g hr) (by omega)
theorem dl : ∀ {m:Mem},e∈upd m key b->e=(key,b)∨e∈m
 | [],h=> .inr h
 | (k,c)::m,h=>by
   simp only [upd] at h
   cases hk:Nat.beq k key<;>simp only [hk,cond_true,cond_false,List.mem_cons] at h
   · rcases h with h|h
     · exact .inr (List.mem_cons.2 (.inl h))
     · rcases dl h with h|h
       · exact .inl h
       · exact .inr (List.mem_cons.2 (.inr h))
   · obtain rfl:k=key:=nQE hk
     rcases h with h|h
     · exact .inl h
     · exact .inr (List.mem_cons.2 (.inr h))
theorem i9 : ∀ m:Mem,(upd m key b).map (·.1)=m.map (·.1)
 | [] =>rfl
 | (k,c)::m=>by
   simp only [upd]
   cases Nat.beq k key<;>simp [i9 m]
theorem j9{g:Nat} :bB ρ (e::m) g↔hasB ρ e g∨bB ρ m g:=by
 constructor
 · rintro ⟨x,hx,h⟩
   rcases List.mem_cons.1 hx with rfl|hx
   · exact .inl h
   · exact .inr ⟨x,hx,h⟩
 · rintro (h| ⟨x,hx,h⟩)
   · exact ⟨e,List.mem_cons_self ..,h⟩
   · exact ⟨x,List.mem_cons_of_mem _ hx,h⟩
abbrev Kin (ρ:Nat->Value) (b c:Blk):Prop:= ∀ g,fX ρ b g↔fX ρ c g
theorem rp{b c:Blk}(h:Kin ρ b c)(g:Nat):hasB ρ (key,b) g↔hasB ρ (key,c) g:=by simp only [hasB,h g]
theorem lu{b c:Blk}(hb:Kin ρ b c)(g:Nat): ∀ {m:Mem},af m key=some c->(bB ρ (upd m key b) g↔bB ρ m g)
 | (k,d)::m,hl=>by
   simp only [af] at hl
   simp only [upd]
   cases hk:Nat.beq k key<;>simp only [hk,cond_true,cond_false] at hl ⊢
   · rw [j9,j9,lu hb g hl]
   · simp only [sIE] at hl
     subst hl
     rw [j9,j9,rp hb]
theorem xr{b c:Blk}(hb:Kin ρ b c)(hl:af m key=some c)(g:Nat):ae F ρ (upd m key b) g↔ae F ρ m g:=by
 unfold ae
 rw [lu hb g hl]
theorem kU{b c:Blk}(hb:Kin ρ b c): ∀ {m:Mem},af m key=some c->m.Pairwise (cf ρ)->(upd m key b).Pairwise (cf ρ)
 | (k,d)::m,hl,h=>by
   rw [List.pairwise_cons] at h
   simp only [af] at hl
   simp only [upd]
   cases hk:Nat.beq k key<;>simp only [hk,cond_true,cond_false] at hl ⊢
   · refine List.pairwise_cons.2 ⟨fun e he=> ?_,kU hb hl h.2⟩
     rcases dl he with rfl|he
     · have:=h.1 _ (ag hl)
       exact ⟨this.1,fun x h1 h2=>this.2 x h1 ((rp hb x).1 h2)⟩
     · exact h.1 e he
   · simp only [sIE] at hl
     subst hl
     refine List.pairwise_cons.2 ⟨fun e he=> ?_,h.2⟩
     have:=h.1 e he
     exact ⟨this.1,fun x h1 h2=>this.2 x ((rp hb x).1 h1) h2⟩
theorem fj{b c:Blk} : ∀ {m:Mem},m.Pairwise (cf ρ)->af m key=some c-> ∀ e∈upd m key b,e=(key,b)∨(e∈m∧cf ρ (key,c) e)
 | (k,d)::m,hp,hl,e,he=>by
   rw [List.pairwise_cons] at hp
   simp only [af] at hl
   simp only [upd] at he
   cases hk:Nat.beq k key<;>simp only [hk,cond_true,cond_false] at hl he
   · rcases List.mem_cons.1 he with rfl|he
     · exact .inr ⟨List.mem_cons_self ..,(hp.1 _ (ag hl)).symm⟩
     · rcases fj hp.2 hl e he with h| ⟨h1,h2⟩
       · exact .inl h
       · exact .inr ⟨List.mem_cons_of_mem _ h1,h2⟩
   · obtain rfl:k=key:=nQE hk
     simp only [sIE] at hl
     subst hl
     rcases List.mem_cons.1 he with rfl|he
     · exact .inl rfl
     · exact .inr ⟨List.mem_cons_of_mem _ he,hp.1 e he⟩
theorem MemOk.write{w w':World}(h:MemOk F w ρ m U){key g:Nat}{b c:Blk}(hl:af m key=some c)(hg:av (ρ key)=some g)
 (hos:w'.os=w.os) (htape:w'.tape=w.tape) (hout:w'.output=w.output) (hsz:w'.heap.size=w.heap.size) (hblk: ∀ k,k≠g->w'.heap[k]? =w.heap[k]?)
 (hb:dv w' ρ (ae F ρ m) U key b) (hkb:Kin ρ b c:=by exact fun _=>Iff.rfl):MemOk F w' ρ (upd m key b) U∧Keep (bB ρ m) w w'∧(∀ k,ae F ρ (upd m key b) k↔ae F ρ m k)∧ ∀ k,bB ρ (upd m key b) k↔bB ρ m k:=by
 have hrw: ∀ k,ae F ρ (upd m key b) k↔ae F ρ m k:=fun k=>xr hkb hl k
 have hrw':ae F ρ (upd m key b)=ae F ρ m:=funext fun k=>propext (hrw k)
 have hk0:Keep (bB ρ m) w w':=⟨hos,htape,hout,by omega,fun k hk hn=>hblk k (fun e=>hn (by subst e;exact ⟨_,ag hl, .inl hg⟩))⟩
 have hk:Keep (ae F ρ m) w w':=hk0.mono fun _ _ h=> .inr h
 refine ⟨⟨fun e he=> ?_,fun e he=> ?_,kU hkb hl h.apart,fun b hb=>by have:=h.frg b hb;omega,by
  have e: ∀ m:Mem,m.Pairwise (fun e e'=>e'.1<e.1)↔(m.map (·.1)).Pairwise fun k k'=>k'<k:=fun m=>by rw [List.pairwise_map]
  rw [e,i9]
  exact (e m).1 h.sorted⟩,hk0,hrw,fun k=>lu hkb k hl⟩
 · rw [hrw']
   rcases fj h.apart hl e he with rfl| ⟨he,hap⟩
   · exact hb
   · exact (h.blk e he).mono (h.key e he) (fun _ h=>h) (fun _ _=>rfl) hk (fun _ _ h=>h) fun k hk'=>hblk k (fun e'=>hap.2 g (.inl hg) (by rw [<-e'];exact hk'))
 · rcases dl he with rfl|he
   · have:=h.key _ (ag hl);exact this
   · exact h.key e he
theorem MemOk.turn{w w':World}(h:MemOk F w ρ m U){b c:Blk}(hl:af m key=some c)(hg:w.grownBy w' (av (ρ key)))
 (hb:dv w' ρ (ae F ρ m) U key b) (hkb:Kin ρ b c:=by exact fun _=>Iff.rfl):MemOk F w' ρ (upd m key b) U∧Keep (bB ρ m) w w'∧(∀ k,ae F ρ (upd m key b) k↔ae F ρ m k)∧ ∀ k,bB ρ (upd m key b) k↔bB ρ m k:=by
 have hrw: ∀ k,ae F ρ (upd m key b) k↔ae F ρ m k:=fun k=>xr hkb hl k
 have hrw':ae F ρ (upd m key b)=ae F ρ m:=funext fun k=>propext (hrw k)
 have hk0:Keep (bB ρ m) w w':=⟨hg.os,hg.tape,hg.output,hg.size,fun k hk hn=>hg.block k hk fun e=>hn ⟨_,ag hl, .inl e.symm⟩⟩
 have hk:Keep (ae F ρ m) w w':=hk0.mono fun _ _ h=> .inr h
 refine ⟨⟨fun e he=> ?_,fun e he=> ?_,kU hkb hl h.apart,fun b hb=>Nat.lt_of_lt_of_le (h.frg b hb) hg.size,by
  have e: ∀ m:Mem,m.Pairwise (fun e e'=>e'.1<e.1)↔(m.map (·.1)).Pairwise fun k k'=>k'<k:=fun m=>by rw [List.pairwise_map]
  rw [e,i9]
  exact (e m).1 h.sorted⟩,hk0,hrw,fun k=>lu hkb k hl⟩
 · rw [hrw']
   rcases fj h.apart hl e he with rfl| ⟨he,hap⟩
   · exact hb
   · exact (h.blk e he).mono (h.key e he) (fun _ h=>h) (fun _ _=>rfl) hk (fun _ _ h=>h) fun k hk'=>hg.block k ((h.blk e he).lt hk') fun e'=>hap.2 k (.inl e'.symm) hk'
 · rcases dl he with rfl|he
   · have:=h.key _ (ag hl);exact this
   · exact h.key e he
end Go.Vd
