/- Messages: what is written and read, as lists. -/
import Derived.Test.YtakcggldilbilaaDoorVdH9
import Derived.Test.YtakcggldilbilaaDoorVdM1
import Derived.Test.YtakcggldilbilaaDoorVdB9
set_option linter.unusedVariables false
set_option linter.unusedSimpArgs false
set_option maxRecDepth 100000
set_option maxHeartbeats 4000000
namespace Go.Vd
open Go.Proofs
theorem dOk_bf {n : Int} (h : dOk n = true) : bfield n = true := by
  have hb := dOk_b h
  refine bfield_iff.2 ⟨by omega, by omega, fun e => ?_⟩
  subst e
  exact absurd h (by decide)
theorem rr_bf {n : Int} {s : List UInt8} (h : rr n s = true) : bfield n = true := dOk_bf (rr_ok h).1
/-! ### Lists that rise -/
def ups (F : List Int) : Prop := F.Pairwise (· < ·)
theorem ups_adj {F : List Int} : (∀ i, 0 < i → i < F.length → F.getD (i - 1) 0 < F.getD i 0) → ups F := by
  intro h
  refine List.pairwise_iff_getElem.2 fun i j hi hj hij => ?_
  have key : ∀ d i, i + d + 1 < F.length → F.getD i 0 < F.getD (i + d + 1) 0 := by
    intro d
    induction d with
    | zero => intro i hi; exact h (i + 1) (by omega) hi
    | succ d ih => intro i hi; exact Int.lt_trans (ih i (by omega)) (h (i + (d + 1) + 1) (by omega) hi)
  have := key (j - i - 1) i (by omega)
  rw [show i + (j - i - 1) + 1 = j by omega] at this
  simpa [List.getD_eq_getElem?_getD, hi, hj] using this
theorem ups_ext : ∀ {F G : List Int}, ups F → ups G → (∀ q, q ∈ F ↔ q ∈ G) → F = G
  | [], [], _, _, _ => rfl
  | [], b :: G, _, _, h => by have := (h b).2 (by simp); simp at this
  | a :: F, [], _, _, h => by have := (h a).1 (by simp); simp at this
  | a :: F, b :: G, h1, h2, h => by
    have p1 := List.pairwise_cons.1 h1
    have p2 := List.pairwise_cons.1 h2
    have e : a = b := by
      rcases List.mem_cons.1 ((h a).1 (by simp)) with e | e
      · exact e
      · rcases List.mem_cons.1 ((h b).2 (by simp)) with e' | e'
        · exact e'.symm
        · have := p1.1 b e'; have := p2.1 a e; omega
    subst e
    refine congrArg (a :: ·) (ups_ext p1.2 p2.2 fun q => ?_)
    constructor
    · intro hq
      rcases List.mem_cons.1 ((h q).1 (List.mem_cons_of_mem _ hq)) with e | e
      · subst e; have := p1.1 q hq; omega
      · exact e
    · intro hq
      rcases List.mem_cons.1 ((h q).2 (List.mem_cons_of_mem _ hq)) with e | e
      · subst e; have := p2.1 q hq; omega
      · exact e
/-! ### The bitmap of fields that rise -/
theorem bof_gen : ∀ (F : List Int) (h l : Nat), bright h l = true → h < 18446744073709551616 → l < 18446744073709551616 → (∀ q ∈ F, bfield q = true) →
    ∃ a b, F.foldl (fun o n => o.bind fun m => if bright m.1 m.2 && bfield n then some (bput m.1 m.2 n) else none) (some (h, l)) = some (a, b) ∧ bright a b = true ∧ a < 18446744073709551616 ∧ b < 18446744073709551616 ∧ ∀ q, bhas a b q = (bhas h l q || decide (q ∈ F))
  | [], h, l, hb, hh, hl, _ => ⟨h, l, rfl, hb, hh, hl, fun q => by simp⟩
  | n :: F, h, l, hb, hh, hl, hF => by
    have hf := hF n (by simp)
    obtain ⟨a, b, h1, h2, h3, h4, h5⟩ := bof_gen F (bput h l n).1 (bput h l n).2 (bput_bright hb hf) (bput_lt n hh hl).1 (bput_lt n hh hl).2 (fun q hq => hF q (List.mem_cons_of_mem _ hq))
    refine ⟨a, b, ?_, h2, h3, h4, fun q => ?_⟩
    · rw [List.foldl_cons, ← h1]
      simp only [Option.bind_some, hb, hf, Bool.and_self, if_true]
    · rw [h5]
      by_cases hq : q = n
      · subst hq; rw [bput_has hb hf]; simp
      · rw [bput_other hb hf hq]; simp [hq]
theorem bfields_mem {a b : Nat} {q : Int} : q ∈ bfields a b ↔ bhas a b q = true := by
  unfold bfields bfieldsTo
  rw [List.mem_filter]
  constructor
  · exact fun h => h.2
  · intro h
    refine ⟨?_, h⟩
    have hf : bfield q = true := by unfold bhas at h; simp only [Bool.and_eq_true] at h; exact h.1
    have := bfield_iff.1 hf
    refine List.mem_map.2 ⟨q.toNat, ?_, by simp; omega⟩
    rw [List.mem_range']
    exact ⟨q.toNat - 2, by omega, by omega⟩
theorem bfields_ups (a b : Nat) : ups (bfields a b) := by
  unfold ups bfields bfieldsTo
  refine List.Pairwise.filter _ ?_
  rw [List.pairwise_map]
  have := List.pairwise_lt_range' (s := 2) (n := 127)
  refine List.Pairwise.imp ?_ this
  intro x y h
  simp
  exact h
theorem bof_ups {F : List Int} (hu : ups F) (hF : ∀ q ∈ F, bfield q = true) :
    bofS F = some (bof F) ∧ bright (bof F).1 (bof F).2 = true ∧ (bof F).1 < 18446744073709551616 ∧ (bof F).2 < 18446744073709551616 ∧ bfields (bof F).1 (bof F).2 = F ∧ boferr F = 0 := by
  obtain ⟨a, b, h1, h2, h3, h4, h5⟩ := bof_gen F 0 0 (by decide) (by decide) (by decide) hF
  have h1 : bofS F = some (a, b) := h1
  have e : bof F = (a, b) := by unfold bof; rw [h1]; rfl
  rw [e]
  refine ⟨h1, h2, h3, h4, ups_ext (bfields_ups a b) hu fun q => ?_, by unfold boferr; rw [h1]; rfl⟩
  rw [bfields_mem, h5]
  have h0 : bhas 0 0 q = false := by unfold bhas; split <;> simp
  rw [h0]; simp
/-! ### Written -/
def fs (L : List It) : List Int := L.map Prod.fst
def body (L : List It) : List UInt8 := (L.map fun x => fWr x.1 x.2).flatten
theorem body_cons (x : It) (L : List It) : body (x :: L) = fWr x.1 x.2 ++ body L := rfl
theorem body_app (L M : List It) : body (L ++ M) = body L ++ body M := by simp [body]
def mBits (L : List It) : List UInt8 := bbytes (bof (fs L)).1 (bof (fs L)).2
def mW (T : List UInt8) (L : List It) : List UInt8 := T ++ (mBits L ++ body L)
theorem mR_iff {T : List UInt8} {L : List It} : mR T L = true ↔ mT T = true ∧ ¬L = [] ∧ (∀ x ∈ L, rr x.1 x.2 = true) ∧ ups (fs L) := by
  have e1 : mUp L L.length = true ↔ (∀ x ∈ L, rr x.1 x.2 = true) ∧ ups (fs L) := by
    unfold mUp
    rw [List.all_eq_true]
    have hget : ∀ i, (fs L).getD i 0 = (L.getD i (0, [])).1 := by
      intro i
      simp [fs, List.getD_eq_getElem?_getD, List.getElem?_map]
      cases L[i]? <;> rfl
    constructor
    · intro h
      have hi : ∀ i, i < L.length → mOk L i = true := fun i hi => h i (List.mem_range.2 hi)
      refine ⟨fun x hx => ?_, ups_adj fun i h0 hl => ?_⟩
      · obtain ⟨i, hl, rfl⟩ := List.mem_iff_getElem.1 hx
        have := hi i hl
        unfold mOk at this
        simp only [Bool.and_eq_true] at this
        simpa [List.getD_eq_getElem?_getD, hl] using this.2
      · have hl' : i < L.length := by simpa [fs] using hl
        have := hi i hl'
        unfold mOk at this
        simp only [Bool.and_eq_true, Bool.or_eq_true, beq_iff_eq, decide_eq_true_eq] at this
        rw [hget, hget]
        rcases this.1 with e | e
        · omega
        · exact e
    · rintro ⟨h1, h2⟩ i hi
      have hl := List.mem_range.1 hi
      refine mOk_yes (fun h0 => ?_) ?_
      · rw [← hget, ← hget]
        have hl' : i < (fs L).length := by simpa [fs] using hl
        have := List.pairwise_iff_getElem.1 h2 (i - 1) i (by omega) hl' (by omega)
        simpa [List.getD_eq_getElem?_getD, hl', show i - 1 < (fs L).length by omega] using this
      · have := h1 _ (List.getElem_mem hl)
        simpa [List.getD_eq_getElem?_getD, hl] using this
  unfold mR
  simp only [Bool.and_eq_true, e1]
  cases L with
  | nil => simp
  | cons a l => simp
theorem mT_len {T : List UInt8} (h : mT T = true) : T.length = 4 := by
  unfold mT at h
  simp only [List.contains_cons, List.contains_nil, Bool.or_eq_true, beq_iff_eq, Bool.or_false] at h
  rcases h with rfl | rfl | rfl | rfl | rfl | rfl | rfl <;> rfl
theorem fs_bf {L : List It} (h : ∀ x ∈ L, rr x.1 x.2 = true) : ∀ q ∈ fs L, bfield q = true := by
  intro q hq
  obtain ⟨x, hx, rfl⟩ := List.mem_map.1 hq
  exact rr_bf (h x hx)
/-! ### Read -/
/-- A field more: what is wrong, what is there, what is left. -/
def itStep (o : Int × List It × List UInt8) (f : Int) : Int × List It × List UInt8 :=
  if o.1 = 0 then (if (fRd f o.2.2).2.2 = 0 then (0, o.2.1 ++ [(f, (fRd f o.2.2).1)], o.2.2.drop (fRd f o.2.2).2.1) else ((fRd f o.2.2).2.2, [], [])) else o
def itF (F : List Int) (B : List UInt8) : Int × List It × List UInt8 := F.foldl itStep (0, [], B)
theorem it_stop : ∀ (F : List Int) (o : Int × List It × List UInt8), ¬o.1 = 0 → F.foldl itStep o = o
  | [], _, _ => rfl
  | f :: F, o, h => by
    rw [List.foldl_cons, show itStep o f = o from if_neg h]
    exact it_stop F o h
theorem it_yes {acc : List It} {B : List UInt8} {f : Int} (h : (fRd f B).2.2 = 0) : itStep (0, acc, B) f = (0, acc ++ [(f, (fRd f B).1)], B.drop (fRd f B).2.1) := by
  unfold itStep; rw [if_pos rfl, if_pos h]
theorem it_no {acc : List It} {B : List UInt8} {f : Int} (h : ¬(fRd f B).2.2 = 0) : itStep (0, acc, B) f = ((fRd f B).2.2, [], []) := by
  unfold itStep; rw [if_pos rfl, if_neg h]
theorem itF_snoc (F : List Int) (f : Int) (B : List UInt8) : itF (F ++ [f]) B = itStep (itF F B) f := by
  unfold itF; rw [List.foldl_append]; rfl
theorem it_back : ∀ (L acc : List It) (X : List UInt8), (∀ x ∈ L, rr x.1 x.2 = true) → (fs L).foldl itStep (0, acc, body L ++ X) = (0, acc ++ L, X)
  | [], acc, X, _ => by simp [fs, body]
  | x :: L, acc, X, h => by
    have hr := fR_back (h x (by simp)) (body L ++ X)
    rw [body_cons, List.append_assoc]
    show (fs L).foldl itStep (itStep (0, acc, _) x.1) = _
    rw [it_yes (by rw [hr]), hr]
    simp only [List.drop_left]
    rw [it_back L _ X fun y hy => h y (List.mem_cons_of_mem _ hy)]
    simp
theorem it_cut : ∀ (L acc : List It) (c : Nat), (∀ x ∈ L, rr x.1 x.2 = true) → c < (body L).length → ((fs L).foldl itStep (0, acc, (body L).take c)).1 = 2
  | [], acc, c, _, hc => by simp [body] at hc
  | x :: L, acc, c, h, hc => by
    rw [body_cons] at hc ⊢
    show ((fs L).foldl itStep (itStep (0, acc, _) x.1)).1 = _
    by_cases h1 : c < (fWr x.1 x.2).length
    · have hr := fR_cut (h x (by simp)) h1
      rw [List.take_append_of_le_length (by omega), it_no (by rw [hr]; decide), it_stop _ _ (by simp only; rw [hr]; decide)]
      exact hr
    · have hr := fR_back (h x (by simp)) ((body L).take (c - (fWr x.1 x.2).length))
      have ht : (fWr x.1 x.2 ++ body L).take c = fWr x.1 x.2 ++ (body L).take (c - (fWr x.1 x.2).length) := by
        rw [List.take_append, List.take_of_length_le (by omega)]
      rw [ht, it_yes (by rw [hr]), hr]
      simp only [List.drop_left]
      rw [List.length_append] at hc
      exact it_cut L _ _ (fun y hy => h y (List.mem_cons_of_mem _ hy)) (by omega)
theorem it_good : ∀ (F : List Int) (acc R : List It) (B C : List UInt8), F.foldl itStep (0, acc, B) = (0, R, C) → ∃ L, R = acc ++ L ∧ fs L = F ∧ (∀ x ∈ L, rr x.1 x.2 = true) ∧ B = body L ++ C
  | [], acc, R, B, C, h => by
    simp only [List.foldl_nil, Prod.mk.injEq, true_and] at h
    exact ⟨[], by simp [h.1], rfl, by simp, by simp [body, h.2]⟩
  | f :: F, acc, R, B, C, h => by
    rw [List.foldl_cons] at h
    by_cases h0 : (fRd f B).2.2 = 0
    · rw [it_yes h0] at h
      obtain ⟨L, h1, h2, h3, h4⟩ := it_good F _ R _ C h
      obtain ⟨g1, g2, g3, g4⟩ := fR_good h0
      refine ⟨(f, (fRd f B).1) :: L, by simp [h1], by simp [fs] at h2 ⊢; exact h2, ?_, ?_⟩
      · intro x hx
        rcases List.mem_cons.1 hx with rfl | hx
        · exact g1
        · exact h3 x hx
      · rw [body_cons, g4, List.append_assoc, ← h4, List.take_append_drop]
    · rw [it_no h0, it_stop _ _ h0] at h
      have := congrArg Prod.fst h
      exact absurd this h0
def mC (B : List UInt8) : List UInt8 := B.drop 4
def mFs (B : List UInt8) : List Int := bfields (br1 (mC B)) (br2 (mC B))
def mIt (B : List UInt8) : Int × List It × List UInt8 := itF (mFs B) ((mC B).drop (brN (mC B)).toNat)
def mRe (B : List UInt8) : Int :=
  if B.length < 4 then 2 else if mT (B.take 4) = false then 3 else if ¬brE (mC B) = 0 then brE (mC B) else if mFs B = [] then 3 else if ¬(mIt B).1 = 0 then (mIt B).1 else if (mIt B).2.2 = [] then 0 else 4
def mRT (B : List UInt8) : List UInt8 := if mRe B = 0 then B.take 4 else []
def mRL (B : List UInt8) : List It := if mRe B = 0 then (mIt B).2.1 else []
theorem mRe_1 {B : List UInt8} (h : B.length < 4) : mRe B = 2 := if_pos h
theorem mRe_2 {B : List UInt8} (h : ¬B.length < 4) (h1 : mT (B.take 4) = false) : mRe B = 3 := by unfold mRe; rw [if_neg h, if_pos h1]
theorem mRe_3 {B : List UInt8} (h : ¬B.length < 4) (h1 : mT (B.take 4) = true) (h2 : ¬brE (mC B) = 0) : mRe B = brE (mC B) := by
  unfold mRe; rw [if_neg h, if_neg (by rw [h1]; simp), if_pos h2]
theorem mRe_4 {B : List UInt8} (h : ¬B.length < 4) (h1 : mT (B.take 4) = true) (h2 : brE (mC B) = 0) (h3 : mFs B = []) : mRe B = 3 := by
  unfold mRe; rw [if_neg h, if_neg (by rw [h1]; simp), if_neg (fun e => e h2), if_pos h3]
theorem mRe_5 {B : List UInt8} (h : ¬B.length < 4) (h1 : mT (B.take 4) = true) (h2 : brE (mC B) = 0) (h3 : ¬mFs B = []) (h4 : ¬(mIt B).1 = 0) : mRe B = (mIt B).1 := by
  unfold mRe; rw [if_neg h, if_neg (by rw [h1]; simp), if_neg (fun e => e h2), if_neg h3, if_pos h4]
theorem mRe_6 {B : List UInt8} (h : ¬B.length < 4) (h1 : mT (B.take 4) = true) (h2 : brE (mC B) = 0) (h3 : ¬mFs B = []) (h4 : (mIt B).1 = 0) : mRe B = if (mIt B).2.2 = [] then 0 else 4 := by
  unfold mRe; rw [if_neg h, if_neg (by rw [h1]; simp), if_neg (fun e => e h2), if_neg h3, if_neg (fun e => e h4)]
theorem fs_ne {L : List It} (h : ¬L = []) : ¬fs L = [] := fun e => h (List.map_eq_nil_iff.1 e)
/-- Read back, and what is behind. -/
theorem mw_read {T : List UInt8} {L : List It} (h : mR T L = true) (X : List UInt8) :
    (mC (mW T L ++ X)) = mBits L ++ (body L ++ X) ∧ mFs (mW T L ++ X) = fs L ∧ mIt (mW T L ++ X) = (0, L, X) ∧ brE (mC (mW T L ++ X)) = 0 ∧ (mW T L ++ X).take 4 = T ∧ ¬(mW T L ++ X).length < 4 := by
  obtain ⟨h1, h2, h3, h4⟩ := mR_iff.1 h
  have hT := mT_len h1
  obtain ⟨b1, b2, b3, b4, b5, b6⟩ := bof_ups h4 (fs_bf h3)
  have hC : mC (mW T L ++ X) = mBits L ++ (body L ++ X) := by
    unfold mC mW
    rw [List.append_assoc, List.drop_append_of_le_length (by omega), List.drop_of_length_le (by omega), List.nil_append, List.append_assoc]
  obtain ⟨r1, r2, r3, r4⟩ := read_back b3 b4 b2 (body L ++ X)
  have hF : mFs (mW T L ++ X) = fs L := by
    unfold mFs; rw [hC]; unfold mBits; rw [r2, r3, b5]
  refine ⟨hC, hF, ?_, ?_, ?_, ?_⟩
  · unfold mIt; rw [hF, hC]; unfold mBits; rw [r4, Int.toNat_natCast, List.drop_left]
    have := it_back L [] X h3
    simpa [itF] using this
  · rw [hC]; exact r1
  · unfold mW; rw [List.append_assoc, List.take_append_of_le_length (by omega), List.take_of_length_le (by omega)]
  · unfold mW; simp; omega
theorem mR_back {T : List UInt8} {L : List It} (h : mR T L = true) : mRe (mW T L) = 0 ∧ mRT (mW T L) = T ∧ mRL (mW T L) = L := by
  obtain ⟨h1, h2, h3, h4⟩ := mR_iff.1 h
  obtain ⟨c1, c2, c3, c4, c5, c6⟩ := mw_read h []
  rw [List.append_nil] at c1 c2 c3 c4 c5 c6
  have e : mRe (mW T L) = 0 := by
    rw [mRe_6 c6 (by rw [c5]; exact h1) c4 (by rw [c2]; exact fs_ne h2) (by rw [c3]), c3]; rfl
  refine ⟨e, ?_, ?_⟩
  · unfold mRT; rw [if_pos e, c5]
  · unfold mRL; rw [if_pos e, c3]
theorem mR_more {T : List UInt8} {L : List It} (h : mR T L = true) (x : UInt8) : mRe (mW T L ++ [x]) = 4 := by
  obtain ⟨h1, h2, h3, h4⟩ := mR_iff.1 h
  obtain ⟨c1, c2, c3, c4, c5, c6⟩ := mw_read h [x]
  rw [mRe_6 c6 (by rw [c5]; exact h1) c4 (by rw [c2]; exact fs_ne h2) (by rw [c3]), c3]; rfl
theorem mR_cut {T : List UInt8} {L : List It} (h : mR T L = true) {c : Nat} (hc : c < (mW T L).length) : mRe ((mW T L).take c) = 2 := by
  obtain ⟨h1, h2, h3, h4⟩ := mR_iff.1 h
  have hT := mT_len h1
  obtain ⟨b1, b2, b3, b4, b5, b6⟩ := bof_ups h4 (fs_bf h3)
  have hl : ((mW T L).take c).length = c := by rw [List.length_take]; omega
  by_cases hc4 : c < 4
  · exact mRe_1 (by omega)
  · have ht : (mW T L).take c = T ++ (mBits L ++ body L).take (c - 4) := by
      unfold mW; rw [List.take_append, List.take_of_length_le (by omega), hT]
    have hC : mC ((mW T L).take c) = (mBits L ++ body L).take (c - 4) := by
      rw [ht]; unfold mC; rw [List.drop_append_of_le_length (by omega), List.drop_of_length_le (by omega), List.nil_append]
    have hT4 : ((mW T L).take c).take 4 = T := by rw [ht, List.take_append_of_le_length (by omega), List.take_of_length_le (by omega)]
    unfold mW at hc
    rw [List.length_append, List.length_append] at hc
    by_cases hb : c - 4 < (mBits L).length
    · have : brE (mC ((mW T L).take c)) = 2 := by
        rw [hC, List.take_append_of_le_length (by omega)]
        exact read_cut b3 b2 _ hb
      rw [mRe_3 (by omega) (by rw [hT4]; exact h1) (by rw [this]; decide), this]
    · have hC2 : mC ((mW T L).take c) = mBits L ++ (body L).take (c - 4 - (mBits L).length) := by
        rw [hC, List.take_append, List.take_of_length_le (by omega)]
      obtain ⟨X, hX⟩ : ∃ X, X = (body L).take (c - 4 - (mBits L).length) := ⟨_, rfl⟩
      rw [← hX] at hC2
      have r : brE (mBits L ++ X) = 0 ∧ br1 (mBits L ++ X) = (bof (fs L)).1 ∧ br2 (mBits L ++ X) = (bof (fs L)).2 ∧ brN (mBits L ++ X) = (mBits L).length := read_back b3 b4 b2 X
      obtain ⟨r1, r2, r3, r4⟩ := r
      have hF : mFs ((mW T L).take c) = fs L := by unfold mFs; rw [hC2, r2, r3, b5]
      have hI : (mIt ((mW T L).take c)).1 = 2 := by
        unfold mIt
        rw [hF, hC2, r4, Int.toNat_natCast, List.drop_left, hX]
        exact it_cut L [] _ h3 (by omega)
      rw [mRe_5 (by omega) (by rw [hT4]; exact h1) (by rw [hC2]; exact r1) (by rw [hF]; exact fs_ne h2) (by rw [hI]; decide), hI]
theorem mR_good {B : List UInt8} (h : mRe B = 0) : mR (mRT B) (mRL B) = true ∧ mW (mRT B) (mRL B) = B := by
  have hl : ¬B.length < 4 := fun e => by rw [mRe_1 e] at h; cases h
  have h1 : mT (B.take 4) = true := by
    cases e : mT (B.take 4)
    · rw [mRe_2 hl e] at h; cases h
    · rfl
  have h2 : brE (mC B) = 0 := by
    by_cases e : brE (mC B) = 0
    · exact e
    · rw [mRe_3 hl h1 e] at h; exact absurd h e
  have h3 : ¬mFs B = [] := fun e => by rw [mRe_4 hl h1 h2 e] at h; cases h
  have h4 : (mIt B).1 = 0 := by
    by_cases e : (mIt B).1 = 0
    · exact e
    · rw [mRe_5 hl h1 h2 h3 e] at h; exact absurd h e
  have h5 : (mIt B).2.2 = [] := by
    by_cases e : (mIt B).2.2 = []
    · exact e
    · rw [mRe_6 hl h1 h2 h3 h4, if_neg e] at h; cases h
  have eT : mRT B = B.take 4 := if_pos h
  have eL : mRL B = (mIt B).2.1 := if_pos h
  have hI : mIt B = (0, (mIt B).2.1, []) := Prod.ext h4 (Prod.ext rfl h5)
  obtain ⟨L, g1, g2, g3, g4⟩ := it_good (mFs B) [] (mIt B).2.1 _ [] hI
  rw [List.nil_append] at g1
  rw [List.append_nil] at g4
  obtain ⟨k1, k2, k3, k4, k5, k6⟩ := read_bytes (mC B) h2
  have hu : ups (fs L) := by rw [g2]; exact bfields_ups _ _
  have hne : ¬L = [] := fun e => h3 (by rw [← g2, e]; rfl)
  rw [eT, eL, g1]
  refine ⟨mR_iff.2 ⟨h1, hne, g3, hu⟩, ?_⟩
  have hbits : mBits L = (mC B).take (brN (mC B)).toNat := by
    unfold mBits
    have e : bofS (fs L) = some (br1 (mC B), br2 (mC B)) := by rw [g2]; exact of_fields k5 k6 k1
    have e2 : bof (fs L) = (br1 (mC B), br2 (mC B)) := by unfold bof; rw [e]; rfl
    rw [e2]; exact k2
  unfold mW
  rw [hbits, ← g4, List.take_append_drop]
  exact List.take_append_drop 4 B
theorem mR_bad {B : List UInt8} (h : ¬mRe B = 0) : mRT B = [] ∧ mRL B = [] := ⟨if_neg h, if_neg h⟩
theorem mW_inj {T U : List UInt8} {L M : List It} (h : mR T L = true) (h' : mR U M = true) : mW T L = mW U M ↔ T = U ∧ L = M := by
  constructor
  · intro e
    have a := mR_back h
    have b := mR_back h'
    rw [e] at a
    exact ⟨a.2.1.symm.trans b.2.1, a.2.2.symm.trans b.2.2⟩
  · rintro ⟨rfl, rfl⟩; rfl
theorem mW_ne {T : List UInt8} {L : List It} (h : mR T L = true) : 12 ≤ (mW T L).length := by
  obtain ⟨h1, h2, h3, h4⟩ := mR_iff.1 h
  have hT := mT_len h1
  obtain ⟨b1, b2, b3, b4, b5, b6⟩ := bof_ups h4 (fs_bf h3)
  have := bb_len b2
  unfold mW mBits
  rw [List.length_append, List.length_append, this]
  split <;> omega
/-! ### Got -/
def mG (L : List It) (n : Int) : List UInt8 := ((L.find? fun x => x.1 == n).getD (0, [])).2
def mH (L : List It) (n : Int) : Bool := (L.find? fun x => x.1 == n).isSome
theorem mG_at {L : List It} {n : Int} {i : Nat} (hi : i < L.length) (h0 : ∀ j, j < i → ¬(L.getD j (0, [])).1 = n) (h : (L.getD i (0, [])).1 = n) : mG L n = (L.getD i (0, [])).2 ∧ mH L n = true := by
  have : L.find? (fun x => x.1 == n) = some (L.getD i (0, [])) := by
    rw [List.find?_eq_some_iff_getElem]
    refine ⟨by simpa using h, i, hi, by simp [List.getD_eq_getElem?_getD, hi], fun j hj => ?_⟩
    have := h0 j hj
    simpa [List.getD_eq_getElem?_getD, show j < L.length by omega] using this
  unfold mG mH
  rw [this]
  exact ⟨rfl, rfl⟩
theorem mG_none {L : List It} {n : Int} (h0 : ∀ j, j < L.length → ¬(L.getD j (0, [])).1 = n) : mG L n = [] ∧ mH L n = false := by
  have : L.find? (fun x => x.1 == n) = none := by
    rw [List.find?_eq_none]
    intro x hx
    obtain ⟨j, hj, rfl⟩ := List.mem_iff_getElem.1 hx
    have := h0 j hj
    simpa [List.getD_eq_getElem?_getD, hj] using this
  unfold mG mH
  rw [this]
  exact ⟨rfl, rfl⟩
theorem ups_ne {L : List It} (hu : ups (fs L)) {i j : Nat} (hij : j < i) (hi : i < L.length) : ¬(L.getD j (0, [])).1 = (L.getD i (0, [])).1 := by
  have := List.pairwise_iff_getElem.1 hu j i (by simp [fs]; omega) (by simpa [fs] using hi) hij
  simp [fs] at this
  simp [List.getD_eq_getElem?_getD, hi, show j < L.length by omega]
  omega
theorem mH_mem (L : List It) (n : Int) : mH L n = L.any fun x => x.1 == n := by
  unfold mH
  rw [Bool.eq_iff_iff, List.find?_isSome]
  simp
end Go.Vd
