/- The frame's laws: awake, FrameRight. -/
import Derived.Test.YtakcggldilbilaaGreatDoorVdF5
import Derived.Test.YtakcggldilbilaaGreatDoorVdM2
import Derived.Test.YtakcggldilbilaaGreatDoorVdB7
set_option linter.unusedVariables false
set_option linter.unusedSimpArgs false
set_option maxRecDepth 100000
set_option maxHeartbeats 4000000
namespace Go.Vd
open Go.Proofs
def fPutR (L : List UInt8) : List UInt8 := if L.length = 0 then [] else if 2048 < L.length then [] else fPutL L
def fPutE (L : List UInt8) : Int := if L.length = 0 then 2 else if 2048 < L.length then 4 else 0
noncomputable def c_fPut : Ct := fun A args => match args with
  | [.slc n 1 f] => some (some (A.tp fun _ => isRow eB 0 1 n f ∧ n ≤ 1000000), .tup [rowS eB 0 1 A fun _ => fPutR (lstOf eB 0 1 n f), .int .i64 (A.ti fun _ => fPutE (lstOf eB 0 1 n f))])
  | _ => none
noncomputable def c_rfPut : Ct := fun A args => match args with
  | [.slc n 1 f] => some (some (A.tp fun _ => isRow eB 0 1 n f ∧ n ≤ 1000000), rowS eB 0 1 A fun _ => fPutL (lstOf eB 0 1 n f))
  | _ => none
noncomputable def c_fFeed : Ct := fun A args => match args with
  | [.agg [.slc n 1 f, .bool br], .slc m 1 g] => some (some (A.tp fun _ => (isRow eB 0 1 n f ∧ isRow eB 0 1 m g) ∧ n ≤ 20000 ∧ m ≤ 20000), .tup [sR A (fun _ => (fFeed (lstOf eB 0 1 n f) br (lstOf eB 0 1 m g)).rest) (A.tb fun _ => (fFeed (lstOf eB 0 1 n f) br (lstOf eB 0 1 m g)).br), rowS eBs [] 1 A fun _ => (fFeed (lstOf eB 0 1 n f) br (lstOf eB 0 1 m g)).told, .int .i64 (A.ti fun _ => (fFeed (lstOf eB 0 1 n f) br (lstOf eB 0 1 m g)).e)])
  | _ => none
noncomputable def c_rfFeed : Ct := fun A args => match args with
  | [.agg [.slc n 1 f, .bool br], .slc m 1 g] => some (some (A.tp fun _ => (isRow eB 0 1 n f ∧ isRow eB 0 1 m g) ∧ n ≤ 20000 ∧ m ≤ 20000), .tup [sR A (fun _ => (fFeed (lstOf eB 0 1 n f) br (lstOf eB 0 1 m g)).rest) (A.tb fun _ => (fFeed (lstOf eB 0 1 n f) br (lstOf eB 0 1 m g)).br), rowS eBs [] 1 A fun _ => (fFeed (lstOf eB 0 1 n f) br (lstOf eB 0 1 m g)).told, .int .i64 (A.ti fun _ => (fFeed (lstOf eB 0 1 n f) br (lstOf eB 0 1 m g)).e)])
  | _ => none
noncomputable def c_fSame : Ct := fun A args => match args with
  | [.agg [.slc n 1 f, .bool br], .agg [.slc m 1 g, .bool bs]] => some (some (A.tp fun _ => isRow eB 0 1 n f ∧ isRow eB 0 1 m g), .bool (A.tb fun _ => decide (br = bs ∧ lstOf eB 0 1 n f = lstOf eB 0 1 m g)))
  | _ => none
noncomputable def c_bLists : Ct := fun A args => match args with
  | [.slc n 1 f, .slc m 1 g] => some (some (A.tp fun _ => isRow eBs [] 1 n f ∧ isRow eBs [] 1 m g ∧ n ≤ 1000000), .bool (A.tb fun _ => decide (lstOf eBs [] 1 n f = lstOf eBs [] 1 m g)))
  | _ => none
noncomputable def gf4 : Ar → Pu := addC 64 c_fPut (addC 68 c_rfPut (addC 16 c_fFeed (addC 49 c_rfFeed (addC 14 c_fSame (addC 17 c_bLists (gf3))))))
theorem gf4_ok : PuOk Tryz.prog gl0 (gf4 std) := by
  refine addC_ok (addC_ok (addC_ok (addC_ok (addC_ok (addC_ok (gf3_ok) ⟨_, Tryz.func17, rfl, by decide⟩ ?_) ⟨_, Tryz.func14, rfl, by decide⟩ ?_) ⟨_, Tryz.func49, rfl, by decide⟩ ?_) ⟨_, Tryz.func16, rfl, by decide⟩ ?_) ⟨_, Tryz.func68, rfl, by decide⟩ ?_) ⟨_, Tryz.func64, rfl, by decide⟩ ?_
  · intro args p r h hp
    unfold c_bLists at h
    split at h <;> cases h
    exact good_sv (good_bLists _ _ (by rw [lstOf_length hp.1]; exact hp.2.2)) ⟨hp.1.sv, hp.2.1.sv, trivial⟩
  · intro args p r h hp
    unfold c_fSame at h
    split at h <;> cases h
    exact good_sv (good_fSame _ _ _ _) ⟨⟨_, rfl, hp.1.sv, rfl, trivial⟩, ⟨_, rfl, hp.2.sv, rfl, trivial⟩, trivial⟩
  · intro args p r h hp
    unfold c_rfFeed at h
    split at h <;> cases h
    exact good_sv (good_rfFeed _ _ _ (by rw [lstOf_length hp.1.1]; exact hp.2.1) (by rw [lstOf_length hp.1.2]; exact hp.2.2)) ⟨⟨_, rfl, hp.1.1.sv, rfl, trivial⟩, hp.1.2.sv, trivial⟩
  · intro args p r h hp
    unfold c_fFeed at h
    split at h <;> cases h
    exact good_sv (good_fFeed _ _ _ (by rw [lstOf_length hp.1.1]; exact hp.2.1) (by rw [lstOf_length hp.1.2]; exact hp.2.2)) ⟨⟨_, rfl, hp.1.1.sv, rfl, trivial⟩, hp.1.2.sv, trivial⟩
  · intro args p r h hp
    unfold c_rfPut at h
    split at h <;> cases h
    exact good_sv (good_rfPut _ (by rw [lstOf_length hp.1]; exact hp.2)) ⟨hp.1.sv, trivial⟩
  · intro args p r h hp
    unfold c_fPut at h
    split at h <;> cases h
    exact good_sv (good_fPut _ (by rw [lstOf_length hp.1]; exact hp.2)) ⟨hp.1.sv, trivial⟩
theorem feed1 : fFeed [] false [0, 1, 65, 0] = ⟨[0], false, [[65]], 0⟩ := by
  rw [fFeed_go (by decide), List.nil_append, fParse_more (by decide) (by decide) (by decide), fParse_short (by decide)]
  rfl
theorem feed2 : fFeed [0] false [0] = ⟨[], true, [], 12⟩ := by
  rw [fFeed_go (by decide), fParse_bad (by decide) (by decide)]
  rfl
theorem put1 : fPutR [65] = [0, 1, 65] := by decide
theorem put2 : fPutE [65] = 0 := by decide
theorem put3 : fPutE [] = 2 := by decide
theorem l65 : lstOf eB 0 1 1 (lstS [[SV.int IntKind.u8 65]]) = [65] := lstOf_eq inj_eB (Reps.one (cell_eB rfl))
theorem l0 : lstOf eB 0 1 1 (lstS [[SV.int IntKind.u8 0]]) = [0] := lstOf_eq inj_eB (Reps.one (cell_eB rfl))
theorem r65 : isRow eB 0 1 1 (lstS [[SV.int IntKind.u8 65]]) := ⟨[65], Reps.one (cell_eB rfl)⟩
theorem r0 : isRow eB 0 1 1 (lstS [[SV.int IntKind.u8 0]]) := ⟨[0], Reps.one (cell_eB rfl)⟩
theorem qc : Reps eB 0 1 (0 + [(0 : UInt8), 1, 65].length + 1) (catS (0 + [(0 : UInt8), 1, 65].length) (catS 0 (fun x x_1 => SV.any) (rowF eB 0 std fun _ => [0, 1, 65])) (lstS [[SV.int IntKind.u8 0]])) [0, 1, 65, 0] :=
  (Reps.nil.cat (Reps.lit [0, 1, 65])).cat (Reps.one (x := 0) (cell_eB rfl))
theorem lc : lstOf eB 0 1 (0 + [(0 : UInt8), 1, 65].length + 1) (catS (0 + [(0 : UInt8), 1, 65].length) (catS 0 (fun x x_1 => SV.any) (rowF eB 0 std fun _ => [0, 1, 65])) (lstS [[SV.int IntKind.u8 0]])) = [0, 1, 65, 0] := lstOf_eq inj_eB qc
theorem rc : isRow eB 0 1 (0 + [(0 : UInt8), 1, 65].length + 1) (catS (0 + [(0 : UInt8), 1, 65].length) (catS 0 (fun x x_1 => SV.any) (rowF eB 0 std fun _ => [0, 1, 65])) (lstS [[SV.int IntKind.u8 0]])) := ⟨_, qc⟩
noncomputable def gf5 : Ar → Pu := gf4
theorem gf5_ok : PuOk Tryz.prog gl0 (gf5 std) := by
  refine gf4_ok
theorem pe0 {B : List UInt8} (h : B = []) : fPutE B = 2 ∧ fPutR B = [] := by subst h; exact ⟨rfl, rfl⟩
theorem pe1 {B : List UInt8} (h : 2048 < B.length) : fPutE B = 4 ∧ fPutR B = [] := by
  unfold fPutE fPutR
  rw [if_neg (by omega), if_pos h, if_neg (by omega), if_pos h]
  exact ⟨rfl, rfl⟩
theorem pe2 {B : List UInt8} (h0 : ¬B = []) (h : ¬2048 < B.length) : fPutE B = 0 ∧ fPutR B = fPutL B := by
  have : ¬B.length = 0 := fun e => h0 (List.length_eq_zero_iff.1 e)
  unfold fPutE fPutR
  rw [if_neg this, if_neg h, if_neg this, if_neg h]
  exact ⟨rfl, rfl⟩
theorem fParse_told (n : Nat) : ∀ L : List UInt8, L.length = n → (fParse L).1.length ≤ L.length := by
  induction n using Nat.strongRecOn with
  | _ n ih =>
    intro L hL
    by_cases h0 : L.length < 2
    · rw [fParse_short h0]; simp
    · cases h1 : fMay (fLen L) with
      | false => rw [fParse_bad h0 h1]; simp
      | true =>
        by_cases h2 : L.length < 2 + fLen L
        · rw [fParse_part h0 h1 h2]; simp
        · rw [fParse_more h0 h1 h2]
          have h := ih (L.drop (2 + fLen L)).length (by rw [List.length_drop]; omega) _ rfl
          rw [List.length_drop] at h
          simp only [List.length_cons]
          omega
theorem fFeed_told {L B : List UInt8} {br : Bool} : (fFeed L br B).told.length ≤ L.length + B.length := by
  cases h : fOk L br
  · rw [fFeed_bad h]; simp
  · cases br
    · rw [fFeed_go h]
      have := fParse_told _ (L ++ B) rfl
      rw [List.length_append] at this
      exact this
    · rw [fFeed_br h]; simp
theorem fFeed_rest {L B : List UInt8} {br : Bool} : (fFeed L br B).rest.length ≤ L.length + B.length := by
  cases h : fOk L br
  · rw [fFeed_bad h]; simp
  · cases br
    · rw [fFeed_go h]
      have := (fParse_ok _ (L ++ B) rfl).2
      rw [List.length_append] at this
      exact this
    · rw [fFeed_br h]; simp
end Go.Vd

set_option linter.unusedVariables false
set_option linter.unusedSimpArgs false
namespace Go.Vd
theorem fOk_len {R : List UInt8} {br : Bool} (h : fOk R br = true) : R.length ≤ 2049 := by
  unfold fOk at h
  cases br
  · rw [if_neg (by simp)] at h
    split at h
    · omega
    · simp only [Bool.and_eq_true, decide_eq_true_eq] at h
      have := fMay_iff.1 h.1
      omega
  · simp at h
    subst h
    simp
/-- One byte tells at most one frame. -/
theorem byte_one {R : List UInt8} {x : UInt8} (h : fOk R false = true) :
    fFeed R false [x] = ⟨[], true, [], 12⟩ ∨ (∃ S, fFeed R false [x] = ⟨S, false, [], 0⟩ ∧ fOk S false = true) ∨ (∃ S t, fFeed R false [x] = ⟨S, false, [t], 0⟩ ∧ fOk S false = true) := by
  rw [fFeed_go h]
  by_cases h2 : (R ++ [x]).length < 2
  · have := fStep_short h2
    rw [fParse_fix this]
    exact .inr (.inl ⟨_, rfl, this⟩)
  · cases h1 : fMay (fLen (R ++ [x])) with
    | false =>
      rw [fParse_bad h2 h1]
      exact .inl rfl
    | true =>
      by_cases h3 : (R ++ [x]).length = 2 + fLen (R ++ [x])
      · have := fParse_full (T := []) h2 h1 h3
        rw [List.append_nil] at this
        rw [this, fParse_short (by simp)]
        exact .inr (.inr ⟨_, _, rfl, (show fOk [] false = true from by decide)⟩)
      · have := fStep_part h h2 h1 h3
        rw [fParse_fix this]
        exact .inr (.inl ⟨_, rfl, this⟩)
structure NNx where
  rest : List UInt8
  br : Bool
  left : List UInt8
  fr : List UInt8
  e : Int
def nGo : List UInt8 → List UInt8 → NNx
  | R, [] => ⟨R, false, [], [], 5⟩
  | R, x :: B => if (fFeed R false [x]).e = 0 then (if (fFeed R false [x]).told = [] then nGo (fFeed R false [x]).rest B else ⟨(fFeed R false [x]).rest, (fFeed R false [x]).br, B, (fFeed R false [x]).told.getD 0 [], 0⟩) else ⟨(fFeed R false [x]).rest, (fFeed R false [x]).br, [], [], (fFeed R false [x]).e⟩
def nNx (R : List UInt8) (br : Bool) (B : List UInt8) : NNx := if fOk R br = false then ⟨R, br, B, [], 1⟩ else if br = true then ⟨R, true, B, [], 12⟩ else nGo R B
theorem nNx_bad {R B : List UInt8} {br : Bool} (h : fOk R br = false) : nNx R br B = ⟨R, br, B, [], 1⟩ := if_pos h
theorem nNx_br {R B : List UInt8} (h : fOk R true = true) : nNx R true B = ⟨R, true, B, [], 12⟩ := by simp [nNx, h]
theorem nNx_go {R B : List UInt8} (h : fOk R false = true) : nNx R false B = nGo R B := by simp [nNx, h]
theorem nGo_nil (R : List UInt8) : nGo R [] = ⟨R, false, [], [], 5⟩ := by simp [nGo]
theorem nGo_err {R B : List UInt8} {x : UInt8} (h : ¬(fFeed R false [x]).e = 0) : nGo R (x :: B) = ⟨(fFeed R false [x]).rest, (fFeed R false [x]).br, [], [], (fFeed R false [x]).e⟩ := by
  rw [nGo, if_neg h]
theorem nGo_told {R B : List UInt8} {x : UInt8} (h : (fFeed R false [x]).e = 0) (h1 : ¬(fFeed R false [x]).told = []) : nGo R (x :: B) = ⟨(fFeed R false [x]).rest, (fFeed R false [x]).br, B, (fFeed R false [x]).told.getD 0 [], 0⟩ := by
  rw [nGo, if_pos h, if_neg h1]
theorem nGo_on {R B : List UInt8} {x : UInt8} (h : (fFeed R false [x]).e = 0) (h1 : (fFeed R false [x]).told = []) : nGo R (x :: B) = nGo (fFeed R false [x]).rest B := by
  rw [nGo, if_pos h, if_pos h1]
theorem byte_br {R : List UInt8} {x : UInt8} (h : fOk R false = true) (h0 : (fFeed R false [x]).e = 0) : (fFeed R false [x]).br = false ∧ fOk (fFeed R false [x]).rest false = true := by
  rcases byte_one (x := x) h with e | ⟨S, e, hS⟩ | ⟨S, t, e, hS⟩
  · rw [e] at h0; cases h0
  · rw [e]; exact ⟨rfl, hS⟩
  · rw [e]; exact ⟨rfl, hS⟩
/-- What the next frame is of all that a line tells at once. -/
theorem nGo_all : ∀ (B R : List UInt8), fOk R false = true →
    ((nGo R B).e = 5 ∧ (nGo R B).br = false ∧ fOk (nGo R B).rest false = true ∧ (nGo R B).left = [] ∧ (nGo R B).fr = [] ∧ fFeed R false B = ⟨(nGo R B).rest, false, [], 0⟩) ∨
    ((nGo R B).e = 12 ∧ (nGo R B).br = true ∧ (nGo R B).rest = [] ∧ (nGo R B).left = [] ∧ (nGo R B).fr = [] ∧ fFeed R false B = ⟨[], true, [], 12⟩) ∨
    ((nGo R B).e = 0 ∧ (nGo R B).br = false ∧ fOk (nGo R B).rest false = true ∧ (nGo R B).left.length < B.length ∧ ∃ C, B = C ++ (nGo R B).left ∧ fFeed R false C = ⟨(nGo R B).rest, false, [(nGo R B).fr], 0⟩)
  | [], R, h => .inl ⟨rfl, rfl, by rw [nGo_nil]; exact h, rfl, rfl, by rw [fFeed_go h, List.append_nil, fParse_fix h]; rfl⟩
  | x :: B, R, h => by
    rcases byte_one (x := x) h with e | ⟨S, e, hS⟩ | ⟨S, t, e, hS⟩
    · have g := nGo_err (B := B) (R := R) (x := x) (by rw [e]; decide)
      rw [e] at g
      rw [g]
      refine .inr (.inl ⟨rfl, rfl, rfl, rfl, rfl, ?_⟩)
      have := fFeed_two (A := [x]) (B := B) h
      rw [e] at this
      dsimp only at this
      rw [fFeed_br (by decide)] at this
      exact this
    · have g := nGo_on (B := B) (R := R) (x := x) (by rw [e]) (by rw [e])
      rw [e] at g
      dsimp only at g
      have two := fun C => fFeed_two (A := [x]) (B := C) h
      rw [e] at two
      dsimp only [List.nil_append] at two
      rw [g]
      rcases nGo_all B S hS with ⟨a1, a2, a3, a4, a5, a6⟩ | ⟨a1, a2, a3, a4, a5, a6⟩ | ⟨a1, a2, a3, a4, C, a5, a6⟩
      · exact .inl ⟨a1, a2, a3, a4, a5, (two B).trans (by rw [a6])⟩
      · exact .inr (.inl ⟨a1, a2, a3, a4, a5, (two B).trans (by rw [a6])⟩)
      · exact .inr (.inr ⟨a1, a2, a3, by rw [List.length_cons]; omega, x :: C, by rw [List.cons_append, ← a5], (two C).trans (by rw [a6])⟩)
    · have g := nGo_told (B := B) (R := R) (x := x) (by rw [e]) (by rw [e]; simp)
      rw [e] at g
      rw [g]
      exact .inr (.inr ⟨rfl, rfl, hS, by simp, [x], rfl, e⟩)
theorem nGo_rest : ∀ (B R : List UInt8), fOk R false = true → (nGo R B).left.length ≤ B.length := fun B R h => by
  rcases nGo_all B R h with ⟨a1, a2, a3, a4, a5, a6⟩ | ⟨a1, a2, a3, a4, a5, a6⟩ | ⟨a1, a2, a3, a4, C, a5, a6⟩
  · rw [a4]; simp
  · rw [a4]; simp
  · omega
/-- What is still to be told. -/
def toGo (R B X : List UInt8) (G : List (List UInt8)) : FFed := ⟨(fFeed R false (B ++ X)).rest, (fFeed R false (B ++ X)).br, G ++ (fFeed R false (B ++ X)).told, (fFeed R false (B ++ X)).e⟩
theorem toGo_none {R B X : List UInt8} {G : List (List UInt8)} (h : fOk R false = true) (he : (nGo R B).e = 5) : toGo R B X G = toGo (nGo R B).rest [] X G := by
  rcases nGo_all B R h with ⟨a1, a2, a3, a4, a5, a6⟩ | ⟨a1, a2, a3, a4, a5, a6⟩ | ⟨a1, a2, a3, a4, C, a5, a6⟩
  · have two := fFeed_two (A := B) (B := X) h
    rw [a6] at two
    unfold toGo
    rw [two, List.nil_append]
    simp
  · rw [a1] at he; cases he
  · rw [a1] at he; cases he
theorem toGo_end {R B : List UInt8} {G : List (List UInt8)} (h : fOk R false = true) (he : (nGo R B).e = 5) : toGo R B [] G = ⟨(nGo R B).rest, false, G, 0⟩ ∧ (nGo R B).br = false := by
  rcases nGo_all B R h with ⟨a1, a2, a3, a4, a5, a6⟩ | ⟨a1, a2, a3, a4, a5, a6⟩ | ⟨a1, a2, a3, a4, C, a5, a6⟩
  · unfold toGo
    rw [List.append_nil, a6]
    simp [a2]
  · rw [a1] at he; cases he
  · rw [a1] at he; cases he
theorem toGo_broken {R B X : List UInt8} {G : List (List UInt8)} (h : fOk R false = true) (he : (nGo R B).e = 12) : toGo R B X G = ⟨[], true, G, 12⟩ ∧ (nGo R B).rest = [] ∧ (nGo R B).br = true := by
  rcases nGo_all B R h with ⟨a1, a2, a3, a4, a5, a6⟩ | ⟨a1, a2, a3, a4, a5, a6⟩ | ⟨a1, a2, a3, a4, C, a5, a6⟩
  · rw [a1] at he; cases he
  · have two := fFeed_two (A := B) (B := X) h
    rw [a6] at two
    dsimp only at two
    rw [fFeed_br (by decide)] at two
    unfold toGo
    rw [two]
    simp [a2, a3]
  · rw [a1] at he; cases he
theorem toGo_told {R B X : List UInt8} {G : List (List UInt8)} (h : fOk R false = true) (he : (nGo R B).e = 0) :
    toGo R B X G = toGo (nGo R B).rest (nGo R B).left X (G ++ [(nGo R B).fr]) ∧ (nGo R B).br = false ∧ fOk (nGo R B).rest false = true ∧ (nGo R B).left.length < B.length := by
  rcases nGo_all B R h with ⟨a1, a2, a3, a4, a5, a6⟩ | ⟨a1, a2, a3, a4, a5, a6⟩ | ⟨a1, a2, a3, a4, C, a5, a6⟩
  · rw [a1] at he; cases he
  · rw [a1] at he; cases he
  · refine ⟨?_, a2, a3, a4⟩
    have two := fFeed_two (A := C) (B := (nGo R B).left ++ X) h
    rw [a6, ← List.append_assoc, ← a5] at two
    unfold toGo
    rw [two]
    simp
theorem nGo_e {R B : List UInt8} (h : fOk R false = true) : (nGo R B).e = 0 ∨ (nGo R B).e = 5 ∨ (nGo R B).e = 12 := by
  rcases nGo_all B R h with ⟨a1, _⟩ | ⟨a1, _⟩ | ⟨a1, _⟩
  · exact .inr (.inl a1)
  · exact .inr (.inr a1)
  · exact .inl a1
theorem nGo_none {R B : List UInt8} (h : fOk R false = true) (he : (nGo R B).e = 5) : (nGo R B).br = false ∧ fOk (nGo R B).rest false = true ∧ (nGo R B).left = [] ∧ (nGo R B).fr = [] := by
  rcases nGo_all B R h with ⟨a1, a2, a3, a4, a5, a6⟩ | ⟨a1, a2, a3, a4, a5, a6⟩ | ⟨a1, a2, a3, a4, C, a5, a6⟩
  · exact ⟨a2, a3, a4, a5⟩
  · rw [a1] at he; cases he
  · rw [a1] at he; cases he
end Go.Vd

set_option linter.unusedVariables false
set_option linter.unusedSimpArgs false
set_option maxRecDepth 100000
set_option maxHeartbeats 8000000
namespace Go.Vd
open Go.Proofs
def aNx (A : Ar) (R : List UInt8) (br : Bool) (B : List UInt8) : SV := .tup [sR A (fun _ => (nNx R br B).rest) (A.tb fun _ => (nNx R br B).br), rowS eB 0 1 A fun _ => (nNx R br B).left, rowS eB 0 1 A fun _ => (nNx R br B).fr, .int .i64 (A.ti fun _ => (nNx R br B).e)]
def aNxT (A : Ar) (R : Unit → List UInt8) (br : Bool) (B : Unit → List UInt8) : SV := .tup [sR A (fun _ => (nNx (R ()) br (B ())).rest) (A.tb fun _ => (nNx (R ()) br (B ())).br), rowS eB 0 1 A fun _ => (nNx (R ()) br (B ())).left, rowS eB 0 1 A fun _ => (nNx (R ()) br (B ())).fr, .int .i64 (A.ti fun _ => (nNx (R ()) br (B ())).e)]
theorem one_cut (B : List UInt8) {i : Nat} (h : i < B.length) : Reps eB 0 1 1 (fun k => rowF eB 0 std (fun _ => B) (i + k)) [B.getD i 0] := by
  have h1 := (Reps.shift' (Reps.lit (enc := eB) (d := 0) (k := 1) B) i (by omega)).take 1 (by omega)
  refine h1.congr rfl ?_
  rw [fdrop_cons h]; rfl
theorem one_lst (B : List UInt8) {i : Nat} (h : i < B.length) : lstOf eB 0 1 1 (fun k => rowF eB 0 std (fun _ => B) (i + k)) = [B.getD i 0] := lstOf_eq inj_eB (one_cut B h)
theorem one_row (B : List UInt8) {i : Nat} (h : i < B.length) : isRow eB 0 1 1 (fun k => rowF eB 0 std (fun _ => B) (i + k)) := ⟨_, one_cut B h⟩
theorem ng_cons {R B : List UInt8} {i : Nat} (h : i < B.length) : nGo R (B.drop i) = nGo R (B.getD i 0 :: B.drop (i + 1)) := by rw [fdrop_cons h]
theorem good_lNext (br : Bool) (R B : List UInt8) (hR : R.length ≤ 10000) (hB : B.length ≤ 10000) : GoodP Tryz.prog gl0 12 [sR std (fun _ => R) br, rowS eB 0 1 std fun _ => B] (aNx std R br B) := by
  refine fn_sound' (T := seatT) (G := gf4) (X := noX) seatT_ok gf4_ok noX_ok noI_ok mixed Tryz.func12 (.none) (fun A => [sR A (fun _ => R) br, rowS eB 0 1 A fun _ => B]) (fun A => aNx A R br B) fun A hA => ?_
  cbv
  repeat' (first | with_reducible exact True.intro | with_reducible exact dr_ok hA (by kernel_rfl) | with_reducible refine And.intro ?_ ?_ | (intro hc; cbv))
  all_goals first
    | (fail_if_success (refine Exists.intro ?_ ?_)
       subst hA; simp [-List.getD_eq_getElem?_getD, sS, strOf_lit, lstOf_lit inj_eB, lstOf_lit inj_eZ, lstOf_lit inj_eBs, lstOf_lit inj_eS, isRow_lit, isB_lit, isRow_nil, lstOf_nil inj_eB, lstOf_nil inj_eZ, lstOf_nil inj_eBs, lstOf_nil inj_eS] at *
       first
         | omega
         | (rw [nNx_bad (by assumption)]; first | done | rfl | exact (Reps.lit _).eqr)
         | (have hb : br = true := by assumption
            subst hb
            rw [nNx_br (by assumption)]; first | done | rfl | exact (Reps.lit _).eqr)
         | trace_state)
    | skip
  rename_i hf0
  have hok : fOk R false = true := by subst hA; subst hc; simpa [sS, strOf_lit, lstOf_lit inj_eB, lstOf_lit inj_eZ, lstOf_lit inj_eBs, lstOf_lit inj_eS] using hf0
  subst hc
  clear hf0
  refine ⟨⟨{p : Nat × List UInt8 // p.1 ≤ B.length ∧ fOk p.2 false = true ∧ nGo p.2 (B.drop p.1) = nGo R B}, fun b p => [(8, .int .i64 (p.1.1 : Nat))], fun b p => [(0, .box 24 [rowS eB 0 1 A fun _ => p.1.2, .bool false])], fun p => B.length - p.1.1, true⟩, ⟨⟨(0, R), by omega, hok, rfl⟩, ?_⟩, ?_⟩
  · cbv
    subst hA
    simp [-List.getD_eq_getElem?_getD, sS, strOf_lit, lstOf_lit inj_eB, lstOf_lit inj_eZ, lstOf_lit inj_eBs, lstOf_lit inj_eS, isRow_lit, isB_lit, isRow_nil, lstOf_nil inj_eB, lstOf_nil inj_eZ, lstOf_nil inj_eBs, lstOf_nil inj_eS]
  · rintro ⟨⟨i, S⟩, hi, hS, hG⟩
    simp only at hi hS hG
    have hlen := fOk_len hS
    have hN := nNx_go (B := B) hok
    rcases Nat.lt_or_ge i B.length with hlt | hge
    · have hw1 : IntKind.i64.wrap ((i : Int) + 1) = (i : Int) + 1 := w64 (by omega)
      have hb1 : 0 ≤ IntKind.i64.wrap ((i : Int) + 1) ∧ IntKind.i64.wrap ((i : Int) + 1) < (B.length : Int) + 1 := by rw [hw1]; constructor <;> omega
      have hwn : (IntKind.i64.wrap ((i : Int) + 1)).toNat = i + 1 := by rw [hw1]; omega
      have hr2 := Reps.shift' (Reps.lit (enc := eB) (d := 0) (k := 1) B) (i + 1) (by omega)
      have h3 := lstOf_eq inj_eB hr2
      have h4 : isRow eB 0 1 (B.length - (i + 1)) (fun k => rowF eB 0 std (fun _ => B) (i + 1 + k)) := ⟨_, hr2⟩
      have h1 := one_lst B hlt
      have h2 := one_row B hlt
      have hx := ng_cons (R := S) hlt
      rw [hx] at hG
      cbv
      repeat' (first | with_reducible exact True.intro | with_reducible exact dr_ok hA (by kernel_rfl) | with_reducible refine And.intro ?_ ?_ | (intro hc; cbv))
      all_goals first
        | (fail_if_success (refine Exists.intro ?_ ?_)
           subst hA
           simp [-List.getD_eq_getElem?_getD, sS, strOf_lit, lstOf_lit inj_eB, lstOf_lit inj_eZ, lstOf_lit inj_eBs, lstOf_lit inj_eS, isRow_lit, isB_lit, isRow_nil, lstOf_nil inj_eB, lstOf_nil inj_eZ, lstOf_nil inj_eBs, lstOf_nil inj_eS, hwn, h1, h2, h3, h4] at *
           first
             | omega
             | (have he : ¬(fFeed S false [B.getD i 0]).e = 0 := by assumption
                rw [hN, ← hG, nGo_err he]; first | done | rfl | exact (Reps.lit _).eqr)
             | (have he : (fFeed S false [B.getD i 0]).e = 0 := by assumption
                have ht : ¬(fFeed S false [B.getD i 0]).told = [] := fun e => absurd hc (by rw [e]; exact Nat.lt_irrefl 0)
                rw [hN, ← hG, nGo_told he ht]; first | done | rfl | exact (Reps.lit _).eqr)
             | exact hb1
             | exact ⟨hb1.1, hb1.2⟩
             | (have he : (fFeed S false [B.getD i 0]).e = 0 := by assumption
                have ht : ¬(fFeed S false [B.getD i 0]).told = [] := fun e => absurd hc (by rw [e]; exact Nat.lt_irrefl 0)
                rw [hN, ← hG, nGo_told he ht, List.length_drop])
             | trace_state)
        | (have he : (fFeed S false [B.getD i 0]).e = 0 := by (clear hN hG hx; subst hA; simp [-List.getD_eq_getElem?_getD, sS, strOf_lit, lstOf_lit inj_eB, lstOf_lit inj_eZ, lstOf_lit inj_eBs, lstOf_lit inj_eS, isRow_lit, isB_lit, isRow_nil, lstOf_nil inj_eB, lstOf_nil inj_eZ, lstOf_nil inj_eBs, lstOf_nil inj_eS, hwn, h1, h2, h3, h4] at *; assumption)
           have ht : (fFeed S false [B.getD i 0]).told = [] := by (clear hN hG hx; subst hA; simp [-List.getD_eq_getElem?_getD, sS, strOf_lit, lstOf_lit inj_eB, lstOf_lit inj_eZ, lstOf_lit inj_eBs, lstOf_lit inj_eS, isRow_lit, isB_lit, isRow_nil, lstOf_nil inj_eB, lstOf_nil inj_eZ, lstOf_nil inj_eBs, lstOf_nil inj_eS, hwn, h1, h2, h3, h4] at *; (first | assumption | exact List.length_eq_zero_iff.1 (by omega) | trace_state))
           have hb := byte_br hS he
           have hg := nGo_on (B := B.drop (i + 1)) he ht
           rw [hG] at hg
           obtain ⟨i', hi'⟩ : ∃ i', i' = i + 1 := ⟨_, rfl⟩
           obtain ⟨S', hS'⟩ : ∃ S', S' = (fFeed S false [B.getD i 0]).rest := ⟨_, rfl⟩
           refine ⟨⟨(i', S'), by omega, by rw [hS']; exact hb.2, by rw [hS', hi']; exact hg.symm⟩, ?_, show B.length - i' < B.length - i by omega⟩
           cbv
           subst hA
           simp [-List.getD_eq_getElem?_getD, sS, strOf_lit, lstOf_lit inj_eB, lstOf_lit inj_eZ, lstOf_lit inj_eBs, lstOf_lit inj_eS, isRow_lit, isB_lit, isRow_nil, lstOf_nil inj_eB, lstOf_nil inj_eZ, lstOf_nil inj_eBs, lstOf_nil inj_eS, hwn, h1, h2, h3, h4]
           exact ⟨hw1.trans (by omega), ⟨by rw [hS'], by rw [hS']; exact (Reps.lit _).eqr⟩, hb.1⟩)
    · have hie : i = B.length := by omega
      have hin : ¬i < B.length := by omega
      rw [hie, List.drop_length, nGo_nil] at hG
      cbv
      repeat' (first | with_reducible exact True.intro | with_reducible exact dr_ok hA (by kernel_rfl) | with_reducible refine And.intro ?_ ?_ | (intro hc; cbv))
      all_goals first
        | (subst hA
           simp [-List.getD_eq_getElem?_getD, sS, strOf_lit, lstOf_lit inj_eB, lstOf_lit inj_eZ, lstOf_lit inj_eBs, lstOf_lit inj_eS, isRow_lit, isB_lit, isRow_nil, lstOf_nil inj_eB, lstOf_nil inj_eZ, lstOf_nil inj_eBs, lstOf_nil inj_eS] at *
           first
             | omega
             | exact absurd (by omega) hc
             | exact absurd (congrArg Nat.cast hie) (by assumption)
             | (rw [hN, ← hG]; first | done | rfl | exact (Reps.lit _).eqr)
             | trace_state)
        | trace_state
noncomputable def c_lNext : Ct := fun A args => match args with
  | [.agg [.slc n 1 f, .bool br], .slc m 1 g] => some (some (A.tp fun _ => (isRow eB 0 1 n f ∧ isRow eB 0 1 m g) ∧ n ≤ 10000 ∧ m ≤ 10000), aNxT A (fun _ => lstOf eB 0 1 n f) br (fun _ => lstOf eB 0 1 m g))
  | _ => none
noncomputable def gP4 : Ar → Pu := addC 12 c_lNext (gf4)
theorem gP4_ok : PuOk Tryz.prog gl0 (gP4 std) := by
  refine addC_ok (gf4_ok) ⟨_, Tryz.func12, rfl, by decide⟩ ?_
  · intro args p r h hp
    unfold c_lNext at h
    split at h <;> cases h
    exact good_sv (good_lNext _ _ _ (by rw [lstOf_length hp.1.1]; exact hp.2.1) (by rw [lstOf_length hp.1.2]; exact hp.2.2)) ⟨⟨_, rfl, hp.1.1.sv, rfl, trivial⟩, hp.1.2.sv, trivial⟩
end Go.Vd

set_option linter.unusedVariables false
set_option linter.unusedSimpArgs false
set_option maxRecDepth 100000
set_option maxHeartbeats 4000000
namespace Go.Vd
open Go.Proofs
def sKey (A : Ar) (s : Int) (r : List UInt8) : SV := .agg [.int .u32 s, .str r]
noncomputable def gk1 : Ar → Pu := gm3
theorem gk1_ok : PuOk Tryz.prog gl0 (gk1 std) := by
  refine gm3_ok
def orInts (A : Ar) (L : Unit → List Int) : SV := rowS eZ 0 1 A L
noncomputable def gk2 : Ar → Pu := gk1
theorem gk2_ok : PuOk Tryz.prog gl0 (gk2 std) := by
  refine gk1_ok
theorem q2 (x y : Int) : Reps eZ 0 1 2 (lstS [[SV.int .i64 x], [SV.int .i64 y]]) [x, y] := Reps.lst (l := [_, _]) (L := [x, y]) ⟨cell_eZ x, cell_eZ y, trivial⟩
theorem good_kOf (a c s : Int) (p r e : List UInt8) : GoodP Tryz.prog gl0 39 [.agg [.int .i64 a, .str p, .int .u64 c, .int .u32 s, .str r, .str e]] (sKey std s r) := by
  refine fn_sound' (T := seatT) (G := noC) (X := noX) seatT_ok noC_ok noX_ok noI_ok mixed Tryz.func39 (.one) (fun A => [.agg [.int .i64 a, .str p, .int .u64 c, .int .u32 s, .str r, .str e]]) (fun A => sKey A s r) fun A hA => ?_
  cbv
  repeat' (first | with_reducible exact True.intro | with_reducible exact dr_ok hA (by kernel_rfl) | with_reducible refine And.intro ?_ ?_ | (intro hc; cbv))
  all_goals (subst hA; simp [std_add, std_sub, std_mul, std_quo, std_rem, std_band, std_bor, std_bxor, std_shl, std_shr, std_eq, std_ne, std_lt, std_le, std_conv, std_not, std_beq, std_bne, std_ite, std_want, std_and2, std_sadd, std_seq, std_sne, std_slt, std_sle, std_sgt, std_sge, std_slen, std_sget, std_scut, std_ofNat, std_toNat, std_nsub, std_nadd, std_lenOf, std_nz, std_nneg, std_inb, std_upto, std_slt63, std_grow, std_imp, std_impN, std_tr, std_tb, std_ti, std_ts, std_tn, std_tp, std_nmin, std_makes, std_room, std_zeros, std_nilq, std_notq, std_eqi, std_eqn, std_eqb, std_eqs, std_eqv, std_cat, std_lst, std_rset, std_rcopy, std_shift, std_eqr, std_strOf, std_bytesOf, std_isB, std_zOf, zOf_int, std_isI, isI_int, std_getL, std_nmul, std_sOf, sOf_str, std_isS, isS_str] at *)
theorem good_dShort (a c s : Int) (p r e : List UInt8) : GoodP Tryz.prog gl0 18 [.agg [.int .i64 a, .str p, .int .u64 c, .int .u32 s, .str r, .str e]] (.bool (std.tb fun _ => decide (p.length ≤ 300 ∧ r.length ≤ 300 ∧ e.length ≤ 300))) := by
  refine fn_sound' (T := seatT) (G := noC) (X := noX) seatT_ok noC_ok noX_ok noI_ok mixed Tryz.func18 (.one) (fun A => [.agg [.int .i64 a, .str p, .int .u64 c, .int .u32 s, .str r, .str e]]) (fun A => .bool (A.tb fun _ => decide (p.length ≤ 300 ∧ r.length ≤ 300 ∧ e.length ≤ 300))) fun A hA => ?_
  cbv
  repeat' (first | with_reducible exact True.intro | with_reducible exact dr_ok hA (by kernel_rfl) | with_reducible refine And.intro ?_ ?_ | (intro hc; cbv))
  all_goals (subst hA; simp [std_add, std_sub, std_mul, std_quo, std_rem, std_band, std_bor, std_bxor, std_shl, std_shr, std_eq, std_ne, std_lt, std_le, std_conv, std_not, std_beq, std_bne, std_ite, std_want, std_and2, std_sadd, std_seq, std_sne, std_slt, std_sle, std_sgt, std_sge, std_slen, std_sget, std_scut, std_ofNat, std_toNat, std_nsub, std_nadd, std_lenOf, std_nz, std_nneg, std_inb, std_upto, std_slt63, std_grow, std_imp, std_impN, std_tr, std_tb, std_ti, std_ts, std_tn, std_tp, std_nmin, std_makes, std_room, std_zeros, std_nilq, std_notq, std_eqi, std_eqn, std_eqb, std_eqs, std_eqv, std_cat, std_lst, std_rset, std_rcopy, std_shift, std_eqr, std_strOf, std_bytesOf, std_isB, std_zOf, zOf_int, std_isI, isI_int, std_getL, std_nmul, std_sOf, sOf_str, std_isS, isS_str] at *)
  all_goals first
    | (rw [Bool.eq_iff_iff]; simp; omega)
    | (intro _ _; constructor <;> assumption)
    | trace_state
theorem good_kRight (s : Int) (r : List UInt8) : GoodP Tryz.prog gl0 62 [sKey std s r] (.bool (std.tb fun _ => keyOk s r)) := by
  refine fn_sound' (T := seatT) (G := noC) (X := noX) seatT_ok noC_ok noX_ok noI_ok mixed Tryz.func62 (.one) (fun A => [sKey A s r]) (fun A => .bool (A.tb fun _ => keyOk s r)) fun A hA => ?_
  cbv
  repeat' (first | with_reducible exact True.intro | with_reducible exact dr_ok hA (by kernel_rfl) | with_reducible refine And.intro ?_ ?_ | (intro hc; cbv))
  rotate_right
  · have h0 : s ≤ 999999 ∧ r.length = 12 := by subst hA; simp [std_add, std_sub, std_mul, std_quo, std_rem, std_band, std_bor, std_bxor, std_shl, std_shr, std_eq, std_ne, std_lt, std_le, std_conv, std_not, std_beq, std_bne, std_ite, std_want, std_and2, std_sadd, std_seq, std_sne, std_slt, std_sle, std_sgt, std_sge, std_slen, std_sget, std_scut, std_ofNat, std_toNat, std_nsub, std_nadd, std_lenOf, std_nz, std_nneg, std_inb, std_upto, std_slt63, std_grow, std_imp, std_impN, std_tr, std_tb, std_ti, std_ts, std_tn, std_tp, std_nmin, std_makes, std_room, std_zeros, std_nilq, std_notq, std_eqi, std_eqn, std_eqb, std_eqs, std_eqv, std_cat, std_lst, std_rset, std_rcopy, std_shift, std_eqr, std_strOf, std_bytesOf, std_isB, std_zOf, zOf_int, std_isI, isI_int, std_getL, std_nmul, std_sOf, sOf_str, std_isS, isS_str] at *; omega
    refine ⟨⟨{i : Nat // i ≤ r.length ∧ (r.take i).all okB = true}, fun b i => [(16, .int .i64 (i.1 : Nat))], fun b i => [], fun i => r.length - i.1, true⟩, ⟨⟨0, by omega, by simp⟩, ?_⟩, ?_⟩
    · cbv
      subst hA
      simp [-List.getD_eq_getElem?_getD, std_add, std_sub, std_mul, std_quo, std_rem, std_band, std_bor, std_bxor, std_shl, std_shr, std_eq, std_ne, std_lt, std_le, std_conv, std_not, std_beq, std_bne, std_ite, std_want, std_and2, std_sadd, std_seq, std_sne, std_slt, std_sle, std_sgt, std_sge, std_slen, std_sget, std_scut, std_ofNat, std_toNat, std_nsub, std_nadd, std_lenOf, std_nz, std_nneg, std_inb, std_upto, std_slt63, std_grow, std_imp, std_impN, std_tr, std_tb, std_ti, std_ts, std_tn, std_tp, std_nmin, std_makes, std_room, std_zeros, std_nilq, std_notq, std_eqi, std_eqn, std_eqb, std_eqs, std_eqv, std_cat, std_lst, std_rset, std_rcopy, std_shift, std_eqr, std_strOf, std_bytesOf, std_isB, std_zOf, zOf_int, std_isI, isI_int, std_getL, std_nmul, std_sOf, sOf_str, std_isS, isS_str]
    · rintro ⟨i, hi, hz⟩
      cbv
      repeat' (first | with_reducible exact True.intro | with_reducible exact dr_ok hA (by kernel_rfl) | with_reducible refine And.intro ?_ ?_ | (intro hc; cbv))
      all_goals first
        | (fail_if_success (refine Exists.intro ?_ ?_)
           subst hA
           simp [-List.getD_eq_getElem?_getD, std_add, std_sub, std_mul, std_quo, std_rem, std_band, std_bor, std_bxor, std_shl, std_shr, std_eq, std_ne, std_lt, std_le, std_conv, std_not, std_beq, std_bne, std_ite, std_want, std_and2, std_sadd, std_seq, std_sne, std_slt, std_sle, std_sgt, std_sge, std_slen, std_sget, std_scut, std_ofNat, std_toNat, std_nsub, std_nadd, std_lenOf, std_nz, std_nneg, std_inb, std_upto, std_slt63, std_grow, std_imp, std_impN, std_tr, std_tb, std_ti, std_ts, std_tn, std_tp, std_nmin, std_makes, std_room, std_zeros, std_nilq, std_notq, std_eqi, std_eqn, std_eqb, std_eqs, std_eqv, std_cat, std_lst, std_rset, std_rcopy, std_shift, std_eqr, std_strOf, std_bytesOf, std_isB, std_zOf, zOf_int, std_isI, isI_int, std_getL, std_nmul, std_sOf, sOf_str, std_isS, isS_str, gD] at *
           done)
        | (fail_if_success (refine Exists.intro ?_ ?_)
           subst hA
           simp [-List.getD_eq_getElem?_getD, std_add, std_sub, std_mul, std_quo, std_rem, std_band, std_bor, std_bxor, std_shl, std_shr, std_eq, std_ne, std_lt, std_le, std_conv, std_not, std_beq, std_bne, std_ite, std_want, std_and2, std_sadd, std_seq, std_sne, std_slt, std_sle, std_sgt, std_sge, std_slen, std_sget, std_scut, std_ofNat, std_toNat, std_nsub, std_nadd, std_lenOf, std_nz, std_nneg, std_inb, std_upto, std_slt63, std_grow, std_imp, std_impN, std_tr, std_tb, std_ti, std_ts, std_tn, std_tp, std_nmin, std_makes, std_room, std_zeros, std_nilq, std_notq, std_eqi, std_eqn, std_eqb, std_eqs, std_eqv, std_cat, std_lst, std_rset, std_rcopy, std_shift, std_eqr, std_strOf, std_bytesOf, std_isB, std_zOf, zOf_int, std_isI, isI_int, std_getL, std_nmul, std_sOf, sOf_str, std_isS, isS_str, gD] at *
           first
             | omega
             | (constructor <;> omega)
             | (have hlt : i < r.length := by omega
                have hx : okB (r.getD i 0) = false := by (simp [-List.getD_eq_getElem?_getD, okB]; omega)
                rw [keyOk, all_false hlt hx]; simp; done)
             | (have hie : i = r.length := by omega
                subst hie
                rw [List.take_of_length_le (Nat.le_refl _)] at hz
                simp [keyOk, h0]; exact hz)
             | trace_state)
        | (have hlt : i < r.length := by clear hz; subst hA; simp [std_add, std_sub, std_mul, std_quo, std_rem, std_band, std_bor, std_bxor, std_shl, std_shr, std_eq, std_ne, std_lt, std_le, std_conv, std_not, std_beq, std_bne, std_ite, std_want, std_and2, std_sadd, std_seq, std_sne, std_slt, std_sle, std_sgt, std_sge, std_slen, std_sget, std_scut, std_ofNat, std_toNat, std_nsub, std_nadd, std_lenOf, std_nz, std_nneg, std_inb, std_upto, std_slt63, std_grow, std_imp, std_impN, std_tr, std_tb, std_ti, std_ts, std_tn, std_tp, std_nmin, std_makes, std_room, std_zeros, std_nilq, std_notq, std_eqi, std_eqn, std_eqb, std_eqs, std_eqv, std_cat, std_lst, std_rset, std_rcopy, std_shift, std_eqr, std_strOf, std_bytesOf, std_isB, std_zOf, zOf_int, std_isI, isI_int, std_getL, std_nmul, std_sOf, sOf_str, std_isS, isS_str] at *; omega
           have hx : okB (r.getD i 0) = true := by
             clear hz
             subst hA
             simp [-List.getD_eq_getElem?_getD, std_add, std_sub, std_mul, std_quo, std_rem, std_band, std_bor, std_bxor, std_shl, std_shr, std_eq, std_ne, std_lt, std_le, std_conv, std_not, std_beq, std_bne, std_ite, std_want, std_and2, std_sadd, std_seq, std_sne, std_slt, std_sle, std_sgt, std_sge, std_slen, std_sget, std_scut, std_ofNat, std_toNat, std_nsub, std_nadd, std_lenOf, std_nz, std_nneg, std_inb, std_upto, std_slt63, std_grow, std_imp, std_impN, std_tr, std_tb, std_ti, std_ts, std_tn, std_tp, std_nmin, std_makes, std_room, std_zeros, std_nilq, std_notq, std_eqi, std_eqn, std_eqb, std_eqs, std_eqv, std_cat, std_lst, std_rset, std_rcopy, std_shift, std_eqr, std_strOf, std_bytesOf, std_isB, std_zOf, zOf_int, std_isI, isI_int, std_getL, std_nmul, std_sOf, sOf_str, std_isS, isS_str, gD] at *
             simp [-List.getD_eq_getElem?_getD, okB]
             omega
           refine ⟨⟨i + 1, by omega, by rw [all_take hlt, hz, hx]; rfl⟩, ?_, show r.length - (i + 1) < r.length - i by omega⟩
           cbv
           subst hA
           simp [std_add, std_sub, std_mul, std_quo, std_rem, std_band, std_bor, std_bxor, std_shl, std_shr, std_eq, std_ne, std_lt, std_le, std_conv, std_not, std_beq, std_bne, std_ite, std_want, std_and2, std_sadd, std_seq, std_sne, std_slt, std_sle, std_sgt, std_sge, std_slen, std_sget, std_scut, std_ofNat, std_toNat, std_nsub, std_nadd, std_lenOf, std_nz, std_nneg, std_inb, std_upto, std_slt63, std_grow, std_imp, std_impN, std_tr, std_tb, std_ti, std_ts, std_tn, std_tp, std_nmin, std_makes, std_room, std_zeros, std_nilq, std_notq, std_eqi, std_eqn, std_eqb, std_eqs, std_eqv, std_cat, std_lst, std_rset, std_rcopy, std_shift, std_eqr, std_strOf, std_bytesOf, std_isB, std_zOf, zOf_int, std_isI, isI_int, std_getL, std_nmul, std_sOf, sOf_str, std_isS, isS_str]
           exact w64 (by omega))
        | trace_state
  all_goals (subst hA; simp [std_add, std_sub, std_mul, std_quo, std_rem, std_band, std_bor, std_bxor, std_shl, std_shr, std_eq, std_ne, std_lt, std_le, std_conv, std_not, std_beq, std_bne, std_ite, std_want, std_and2, std_sadd, std_seq, std_sne, std_slt, std_sle, std_sgt, std_sge, std_slen, std_sget, std_scut, std_ofNat, std_toNat, std_nsub, std_nadd, std_lenOf, std_nz, std_nneg, std_inb, std_upto, std_slt63, std_grow, std_imp, std_impN, std_tr, std_tb, std_ti, std_ts, std_tn, std_tp, std_nmin, std_makes, std_room, std_zeros, std_nilq, std_notq, std_eqi, std_eqn, std_eqb, std_eqs, std_eqv, std_cat, std_lst, std_rset, std_rcopy, std_shift, std_eqr, std_strOf, std_bytesOf, std_isB, std_zOf, zOf_int, std_isI, isI_int, std_getL, std_nmul, std_sOf, sOf_str, std_isS, isS_str] at *)
  all_goals (rw [Bool.eq_false_iff]; intro h; simp [keyOk] at h; omega)
theorem keyOk_le {s : Int} {r : List UInt8} (h : keyOk s r = true) : s ≤ 999999 ∧ r.length = 12 := by
  simp [keyOk] at h
  exact ⟨h.1, h.2.1⟩
noncomputable def c_kRight : Ct := fun A args => match args with
  | [.agg [.int .u32 s, .str r]] => some (none, .bool (A.tb fun _ => keyOk s r))
  | _ => none
noncomputable def c_kOf : Ct := fun A args => match args with
  | [.agg [.int .i64 a, .str p, .int .u64 c, .int .u32 s, .str r, .str e]] => some (none, .agg [.int .u32 s, .str r])
  | _ => none
noncomputable def c_dShort : Ct := fun A args => match args with
  | [.agg [.int .i64 a, .str p, .int .u64 c, .int .u32 s, .str r, .str e]] => some (none, .bool (A.tb fun _ => decide (p.length ≤ 300 ∧ r.length ≤ 300 ∧ e.length ≤ 300)))
  | _ => none
noncomputable def c_dRight : Ct := fun A args => match args with
  | [.agg [.int .i64 k, .str p, .int .u64 a, .int .u32 s, .str r, .str c]] => some (some (A.tp fun _ => p.length ≤ 100000 ∧ r.length ≤ 1000000 ∧ c.length ≤ 1000000), .bool (A.tb fun _ => dR k a s p r c))
  | _ => none
noncomputable def gk8 : Ar → Pu := addC 62 c_kRight (addC 39 c_kOf (addC 18 c_dShort (addC 21 c_dRight (gk2))))
theorem gk8_ok : PuOk Tryz.prog gl0 (gk8 std) := by
  refine addC_ok (addC_ok (addC_ok (addC_ok (gk2_ok) ⟨_, Tryz.func21, rfl, by decide⟩ ?_) ⟨_, Tryz.func18, rfl, by decide⟩ ?_) ⟨_, Tryz.func39, rfl, by decide⟩ ?_) ⟨_, Tryz.func62, rfl, by decide⟩ ?_
  · intro args p r h hp
    unfold c_dRight at h
    split at h <;> cases h
    exact good_dRight _ _ _ _ _ _ hp.1 hp.2.1 hp.2.2
  · intro args p r h hp
    unfold c_dShort at h
    split at h <;> cases h
    exact good_dShort _ _ _ _ _ _
  · intro args p r h hp
    unfold c_kOf at h
    split at h <;> cases h
    exact good_kOf _ _ _ _ _ _
  · intro args p r h hp
    unfold c_kRight at h
    split at h <;> cases h
    exact good_kRight _ _
end Go.Vd

set_option linter.unusedVariables false
set_option linter.unusedSimpArgs false
set_option maxRecDepth 100000
set_option maxHeartbeats 4000000
namespace Go.Vd
open Go.Proofs
structure Ent where
  s : Int
  r : List UInt8
  st : Int
  pan : List UInt8
  am : Int
  code : List UInt8
  tr : Int
  ca : Int
  deriving DecidableEq
structure Dl where
  k : Int
  pan : List UInt8
  am : Int
  s : Int
  r : List UInt8
  code : List UInt8
  deriving DecidableEq
def E0 : Ent := ⟨0, [], 0, [], 0, [], 0, 0⟩
def D0 : Dl := ⟨0, [], 0, 0, [], []⟩
def unT (e : Ent) : Bool := decide (e.tr = 0) && decide (e.ca = 0)
def tuR (e : Ent) : Bool := (decide (e.ca = 1) || decide (e.ca = 2)) && (decide (0 ≤ e.tr) && decide (e.tr ≤ 16))
def eSt (e : Ent) : Bool :=
  if e.st = 1 then decide (e.code = []) && unT e else if e.st = 2 then decide (e.code = [48, 48]) && unT e
  else if e.st = 3 then decide (¬e.code = [48, 48]) && (rr 39 e.code && unT e) else if e.st = 4 ∨ e.st = 5 ∨ e.st = 6 then rr 39 e.code && tuR e else false
def eR (e : Ent) : Bool := keyOk e.s e.r && (decide ((e.pan.length : Int) ≤ 19) && (lFine e.pan && (decide (e.am < 1000000000000) && eSt e)))
theorem eR_no {s st am tr ca : Int} {r pan code : List UInt8} (hc : ((keyOk s r = false ∨ (19 : Int) < (pan.length : Int)) ∨ lFine pan = false) ∨ 1000000000000 ≤ am) : eR ⟨s, r, st, pan, am, code, tr, ca⟩ = false := by
  rw [Bool.eq_false_iff]
  intro h
  simp only [eR, Bool.and_eq_true, decide_eq_true_eq] at h
  rcases hc with ((hc | hc) | hc) | hc
  · rw [hc] at h; cases h.1
  · omega
  · rw [hc] at h; cases h.2.2.1
  · omega
theorem eR_st {e : Ent} (h : ((keyOk e.s e.r = true ∧ (e.pan.length : Int) ≤ 19) ∧ lFine e.pan = true) ∧ e.am < 1000000000000) : eR e = eSt e := by
  unfold eR
  rw [h.1.1.1, decide_eq_true h.1.1.2, h.1.2, decide_eq_true h.2]
  rfl
noncomputable def gc1 : Ar → Pu := gk8
theorem gc1_ok : PuOk Tryz.prog gl0 (gc1 std) := by
  refine gk8_ok
noncomputable def gc2 : Ar → Pu := gc1
theorem gc2_ok : PuOk Tryz.prog gl0 (gc2 std) := by
  refine gc1_ok
end Go.Vd

set_option linter.unusedVariables false
set_option linter.unusedSimpArgs false
set_option maxRecDepth 100000
set_option maxHeartbeats 4000000
namespace Go.Vd
open Go.Proofs
def evK (v : Int) : Int := if v = 1 then 1 else if v = 2 then 2 else if v = 3 then 3 else if v = 5 then 7 else 0
def evO (v : Int) : Bool := decide (v = 1) || (decide (v = 2) || (decide (v = 3) || decide (v = 5)))
def dRR (d : Dl) : Bool := dR d.k d.am d.s d.pan d.r d.code
def vR (v : Int) (d : Dl) : Bool :=
  if v = 4 then decide (d.k = 0) && (decide (d.pan = []) && (decide (d.am = 0) && (decide (d.code = []) && keyOk d.s d.r)))
  else evO v && (decide (d.k = evK v) && dRR d)
def rF (e : Ent) (s : Int) (r : List UInt8) : Bool := decide (e = E0) || (eR e && (decide (e.s = s) && decide (e.r = r)))
theorem not8 {a b c d e f g h : Prop} (H : a → b → c → d → e → f → g → ¬h) : ¬a ∨ ¬b ∨ ¬c ∨ ¬d ∨ ¬e ∨ ¬f ∨ ¬g ∨ ¬h := by
  by_cases ha : a <;> by_cases hb : b <;> by_cases hc : c <;> by_cases hd : d <;> by_cases he : e <;> by_cases hf : f <;> by_cases hg : g <;> simp [ha, hb, hc, hd, he, hf, hg]
  exact H ha hb hc hd he hf hg
theorem good_cDeal (v : Int) : GoodP Tryz.prog gl0 63 [.int .i64 v] (.tup [.int .i64 (std.ti fun _ => evK v), .bool (std.tb fun _ => evO v)]) := by
  refine fn_sound' (T := seatT) (G := noC) (X := noX) seatT_ok noC_ok noX_ok noI_ok mixed Tryz.func63 (.one) (fun A => [.int .i64 v]) (fun A => .tup [.int .i64 (A.ti fun _ => evK v), .bool (A.tb fun _ => evO v)]) fun A hA => ?_
  cbv
  repeat' (first | with_reducible exact True.intro | with_reducible exact dr_ok hA (by kernel_rfl) | with_reducible refine And.intro ?_ ?_ | (intro hc; cbv))
  all_goals (subst hA; simp [std_add, std_sub, std_mul, std_quo, std_rem, std_band, std_bor, std_bxor, std_shl, std_shr, std_eq, std_ne, std_lt, std_le, std_conv, std_not, std_beq, std_bne, std_ite, std_want, std_and2, std_sadd, std_seq, std_sne, std_slt, std_sle, std_sgt, std_sge, std_slen, std_sget, std_scut, std_ofNat, std_toNat, std_nsub, std_nadd, std_lenOf, std_nz, std_nneg, std_inb, std_upto, std_slt63, std_grow, std_imp, std_impN, std_tr, std_tb, std_ti, std_ts, std_tn, std_tp, std_nmin, std_makes, std_room, std_zeros, std_nilq, std_notq, std_eqi, std_eqn, std_eqb, std_eqs, std_eqv, std_cat, std_lst, std_rset, std_rcopy, std_shift, std_eqr, std_strOf, std_bytesOf, std_isB, std_zOf, zOf_int, std_isI, isI_int, std_getL, std_nmul, std_sOf, sOf_str, std_isS, isS_str] at *)
  all_goals first
    | (subst_vars; simp_all [evK, evO]; done)
    | (simp [evK, evO, *]; done)
    | contradiction
    | trace_state
noncomputable def c_cDeal : Ct := fun A args => match args with
  | [.int .i64 v] => some (none, .tup [.int .i64 (A.ti fun _ => evK v), .bool (A.tb fun _ => evO v)])
  | _ => none
noncomputable def gc3 : Ar → Pu := addC 63 c_cDeal (gc2)
theorem gc3_ok : PuOk Tryz.prog gl0 (gc3 std) := by
  refine addC_ok (gc2_ok) ⟨_, Tryz.func63, rfl, by decide⟩ ?_
  · intro args p r h hp
    unfold c_cDeal at h
    split at h <;> cases h
    exact good_cDeal _
theorem good_cRight (v k am s : Int) (pan r code : List UInt8) (hp : pan.length ≤ 100000) (hr : r.length ≤ 1000000) (hcc : code.length ≤ 1000000) : GoodP Tryz.prog gl0 22 [.agg [.int .i64 v, .int .i64 k, .str pan, .int .u64 am, .int .u32 s, .str r, .str code]] (.bool (std.tb fun _ => vR v ⟨k, pan, am, s, r, code⟩)) := by
  refine fn_sound' (T := seatT) (G := gc3) (X := noX) seatT_ok gc3_ok noX_ok noI_ok mixed Tryz.func22 (.one) (fun A => [.agg [.int .i64 v, .int .i64 k, .str pan, .int .u64 am, .int .u32 s, .str r, .str code]]) (fun A => .bool (A.tb fun _ => vR v ⟨k, pan, am, s, r, code⟩)) fun A hA => ?_
  cbv
  repeat' (first | with_reducible exact True.intro | with_reducible exact dr_ok hA (by kernel_rfl) | with_reducible refine And.intro ?_ ?_ | (intro hc; cbv))
  all_goals (subst hA; try simp [std_add, std_sub, std_mul, std_quo, std_rem, std_band, std_bor, std_bxor, std_shl, std_shr, std_eq, std_ne, std_lt, std_le, std_conv, std_not, std_beq, std_bne, std_ite, std_want, std_and2, std_sadd, std_seq, std_sne, std_slt, std_sle, std_sgt, std_sge, std_slen, std_sget, std_scut, std_ofNat, std_toNat, std_nsub, std_nadd, std_lenOf, std_nz, std_nneg, std_inb, std_upto, std_slt63, std_grow, std_imp, std_impN, std_tr, std_tb, std_ti, std_ts, std_tn, std_tp, std_nmin, std_makes, std_room, std_zeros, std_nilq, std_notq, std_eqi, std_eqn, std_eqb, std_eqs, std_eqv, std_cat, std_lst, std_rset, std_rcopy, std_shift, std_eqr, std_strOf, std_bytesOf, std_isB, std_zOf, zOf_int, std_isI, isI_int, std_getL, std_nmul, std_sOf, sOf_str, std_isS, isS_str] at *)
  all_goals first
    | (intro h1 h2; exact ⟨⟨h1, h2⟩, hp, hr, hcc⟩)
    | (unfold vR; rw [if_pos hc, Bool.eq_iff_iff]; simp [and_assoc]; done)
    | (unfold vR dRR; rw [if_neg hc, Bool.eq_iff_iff]; simp [and_assoc]; done)
    | trace_state
noncomputable def c_cRight : Ct := fun A args => match args with
  | [.agg [.int .i64 v, .int .i64 k, .str pan, .int .u64 am, .int .u32 s, .str r, .str code]] => some (some (A.tp fun _ => pan.length ≤ 100000 ∧ r.length ≤ 1000000 ∧ code.length ≤ 1000000), .bool (A.tb fun _ => vR v ⟨k, pan, am, s, r, code⟩))
  | _ => none
noncomputable def gc4 : Ar → Pu := addC 22 c_cRight (gc3)
theorem gc4_ok : PuOk Tryz.prog gl0 (gc4 std) := by
  refine addC_ok (gc3_ok) ⟨_, Tryz.func22, rfl, by decide⟩ ?_
  · intro args p r h hp
    unfold c_cRight at h
    split at h <;> cases h
    exact good_cRight _ _ _ _ _ _ _ hp.1 hp.2.1 hp.2.2
end Go.Vd

set_option linter.unusedVariables false
set_option linter.unusedSimpArgs false
set_option maxRecDepth 100000
set_option maxHeartbeats 8000000
namespace Go.Vd
open Go.Proofs
theorem xor8 (x : UInt8) {b : Int} (hb : 0 ≤ b ∧ b < 256) : ∃ y : UInt8, bits .xor .u8 (x.toNat : Int) b = (y.toNat : Int) ∧ (y = x ↔ b = 0) := by
  obtain ⟨n, rfl⟩ : ∃ n : Nat, b = n := ⟨b.toNat, by omega⟩
  have hn : n < 256 := by omega
  have hx := UInt8.toNat_lt x
  have hlt : x.toNat ^^^ n < 256 := Nat.xor_lt_two_pow (n := 8) (by omega) (by omega)
  refine ⟨UInt8.ofNat (x.toNat ^^^ n), ?_, ?_⟩
  · have h1 : (UInt8.ofNat (x.toNat ^^^ n)).toNat = x.toNat ^^^ n := by rw [UInt8.toNat_ofNat']; omega
    rw [h1]
    have h2 : (BitVec.ofInt 8 (x.toNat : Int) ^^^ BitVec.ofInt 8 (n : Int)).toNat = x.toNat ^^^ n := by
      rw [BitVec.toNat_xor]
      simp only [BitVec.ofInt_natCast, BitVec.toNat_ofNat]
      rw [Nat.mod_eq_of_lt (by omega), Nat.mod_eq_of_lt (by omega)]
    show IntKind.u8.wrap ((BitVec.ofInt 8 (x.toNat : Int) ^^^ BitVec.ofInt 8 (n : Int)).toNat : Int) = _
    rw [h2]
    unfold IntKind.wrap
    simp [IntKind.signed, IntKind.bits]
    omega
  · constructor
    · intro h
      have h1 := congrArg UInt8.toNat h
      rw [UInt8.toNat_ofNat', Nat.mod_eq_of_lt hlt] at h1
      have h2 : x.toNat ^^^ (x.toNat ^^^ n) = x.toNat ^^^ x.toNat := by rw [h1]
      rw [← Nat.xor_assoc, Nat.xor_self, Nat.zero_xor] at h2
      omega
    · intro h
      have : n = 0 := by omega
      subst this
      rw [Nat.xor_zero, UInt8.ofNat_toNat]
theorem cat0 (g f : Nat → Nat → SV) : catS 0 g f = f := by funext i j; simp [catS]
theorem rowB_at (B : List UInt8) (j : Nat) : rowF eB 0 std (fun _ => B) j 0 = .int .u8 ((B.getD j 0).toNat : Int) := rfl
theorem set_reps (B : List UInt8) {j : Nat} (hj : j < B.length) {z : Int} {y : UInt8} (hz : z = y.toNat) : Reps eB 0 1 B.length (rsetS (rowF eB 0 std fun _ => B) j 0 [SV.int .u8 z]) (B.set j y) :=
  (Reps.lit B).rset' hj y rfl (cell_eB hz)
theorem set_iff {B : List UInt8} {j : Nat} (hj : j < B.length) {y : UInt8} : B.set j y = B ↔ y = B.getD j 0 := by
  have e : B.getD j 0 = B[j] := by rw [List.getD_eq_getElem?_getD, List.getElem?_eq_getElem hj]; rfl
  rw [e]
  constructor
  · intro h
    have := congrArg (·[j]?) h
    simpa [hj] using this
  · rintro rfl
    exact List.set_getElem_self hj
theorem body_sum {L : List It} (h : ∀ x ∈ L, rr x.1 x.2 = true) : (body L).length ≤ (L.map fun x => x.2.length + 3).sum := by
  induction L with
  | nil => simp [body]
  | cons x L ih =>
    rw [body_cons, List.length_append, List.map_cons, List.sum_cons]
    have h1 := fWr_len (h x (by simp))
    have := ih fun y hy => h y (List.mem_cons_of_mem _ hy)
    omega
theorem dB_len {k a s : Int} {p r c : List UInt8} (h : dR k a s p r c = true) (ha : 0 ≤ a) (hs : 0 ≤ s) : 12 ≤ (mW (tyOf k) (dIs k a s p r c)).length ∧ (mW (tyOf k) (dIs k a s p r c)).length ≤ 200 := by
  have hR := dIs_R h ha hs
  have hi := mR_iff.1 hR
  refine ⟨mW_ne hR, ?_⟩
  obtain ⟨b1, b2, b3, b4, b5, b6⟩ := bof_ups hi.2.2.2 (fs_bf hi.2.2.1)
  have hbb := bb_len b2
  have hT := mT_len hi.1
  have hl := dR_len h
  obtain ⟨q1, q2, q3, q4, q5, q6⟩ := dR_parts h ha hs
  have l11 := (rr11.1 q2).1
  have l90 := (rr90.1 q5).1
  have hs := body_sum hi.2.2.1
  have hbits : (mBits (dIs k a s p r c)).length ≤ 16 := by unfold mBits; rw [hbb]; split <;> omega
  have hsum : ((dIs k a s p r c).map fun x => x.2.length + 3).sum ≤ 120 := by
    unfold dIs
    split
    · rename_i e
      have l4 := (rr4.1 (q6 (asks_tl e)).2.1).1
      simp
      omega
    · split
      · rename_i e
        have l4 := (rr4.1 (q6 e).2.1).1
        simp
        omega
      · simp
        omega
  unfold mW
  rw [List.length_append, List.length_append]
  omega
theorem db_iff {k a s : Int} {p r c : List UInt8} (hd : dR k a s p r c = true) (ha : 0 ≤ a) (hs : 0 ≤ s) {B : List UInt8} (h : mRe B = 0) :
    (dE (mRT B) (mRL B) = 0 ∧ xK (mRT B) (mRL B) = k ∧ xP (mRT B) (mRL B) = p ∧ xA (mRT B) (mRL B) = a ∧ xS (mRT B) (mRL B) = s ∧ xR (mRT B) (mRL B) = r ∧ xC (mRT B) (mRL B) = c) ↔ B = mW (tyOf k) (dIs k a s p r c) := by
  have g := mR_good h
  constructor
  · rintro ⟨h1, h2, h3, h4, h5, h6, h7⟩
    have q := d_good h1
    rw [h2, h3, h4, h5, h6, h7] at q
    rw [q.2.1, q.2.2.1]
    exact g.2.symm
  · intro e
    have hR := dIs_R hd ha hs
    have hb := mR_back hR
    have b := d_back hd ha hs
    rw [e, hb.2.1, hb.2.2]
    exact ⟨b.1, b.2.1, b.2.2.2.2.1, b.2.2.1, b.2.2.2.1, b.2.2.2.2.2.1, b.2.2.2.2.2.2⟩
end Go.Vd

set_option linter.unusedVariables false
set_option linter.unusedSimpArgs false
set_option maxRecDepth 100000
set_option maxHeartbeats 8000000
namespace Go.Vd
open Go.Proofs
noncomputable def c_lEvent : Ct := fun A args => match args with
  | [.int .i64 s, .slc n 1 f] => some (some (A.tp fun _ => isRow eB 0 1 n f ∧ n ≤ 1000000), .tup [lEvT A s (fun _ => lstOf eB 0 1 n f), .bool (A.tb fun _ => lOk s (lstOf eB 0 1 n f))])
  | _ => none
noncomputable def c_lNext9 : Ct := fun A args => match args with
  | [.agg [.slc n 1 f, .bool br], .slc m 1 g] => some (some (A.tp fun _ => (isRow eB 0 1 n f ∧ isRow eB 0 1 m g) ∧ n ≤ 10000 ∧ m ≤ 10000), aNxT A (fun _ => lstOf eB 0 1 n f) br (fun _ => lstOf eB 0 1 m g))
  | _ => none
noncomputable def c_cRight9 : Ct := fun A args => match args with
  | [.agg [.int .i64 v, .int .i64 k, .str pan, .int .u64 am, .int .u32 s, .str r, .str code]] => some (some (A.tp fun _ => pan.length ≤ 100000 ∧ r.length ≤ 1000000 ∧ code.length ≤ 1000000), .bool (A.tb fun _ => vR v ⟨k, pan, am, s, r, code⟩))
  | _ => none
noncomputable def c_oShort9 : Ct := fun A args => match args with
  | [.agg [.int .i64 a, .str p, .int .u64 c, .int .u32 s, .str r, .str e]] => some (none, .bool (A.tb fun _ => oSh p r e))
  | _ => none
noncomputable def gP2 : Ar → Pu := addC 10 c_lEvent (addC 12 c_lNext9 (gP1))
theorem gP2_ok : PuOk Tryz.prog gl0 (gP2 std) := by
  refine addC_ok (addC_ok (gP1_ok) ⟨_, Tryz.func12, rfl, by decide⟩ ?_) ⟨_, Tryz.func10, rfl, by decide⟩ ?_
  · intro args p r h hp
    unfold c_lNext9 at h
    split at h <;> cases h
    exact good_sv (good_lNext _ _ _ (by rw [lstOf_length hp.1.1]; exact hp.2.1) (by rw [lstOf_length hp.1.2]; exact hp.2.2)) ⟨⟨_, rfl, hp.1.1.sv, rfl, trivial⟩, hp.1.2.sv, trivial⟩
  · intro args p r h hp
    unfold c_lEvent at h
    split at h <;> cases h
    exact good_sv (good_lEvent _ _ (by rw [lstOf_length hp.1]; exact hp.2)) ⟨rfl, hp.1.sv, trivial⟩
noncomputable def gP3 : Ar → Pu := addC 22 c_cRight9 (addC 18 c_oShort9 (gP2))
theorem gP3_ok : PuOk Tryz.prog gl0 (gP3 std) := by
  refine addC_ok (addC_ok (gP2_ok) ⟨_, Tryz.func18, rfl, by decide⟩ ?_) ⟨_, Tryz.func22, rfl, by decide⟩ ?_
  · intro args p r h hp
    unfold c_oShort9 at h
    split at h <;> cases h
    exact good_oShort _ _ _ _ _ _
  · intro args p r h hp
    unfold c_cRight9 at h
    split at h <;> cases h
    exact good_cRight _ _ _ _ _ _ _ hp.1 hp.2.1 hp.2.2
theorem nGo_fix {R B : List UInt8} {x : UInt8} (h : fOk R false = true) (h1 : fOk (R ++ [x]) false = true) : nGo R (x :: B) = nGo (R ++ [x]) B := by
  have e : fFeed R false [x] = ⟨R ++ [x], false, [], 0⟩ := by rw [fFeed_go h, fParse_fix h1]; rfl
  rw [nGo_on (by rw [e]) (by rw [e]), e]
theorem nGo_full {R B : List UInt8} {x : UInt8} (h : fOk R false = true) (h2 : ¬(R ++ [x]).length < 2) (h1 : fMay (fLen (R ++ [x])) = true) (h3 : (R ++ [x]).length = 2 + fLen (R ++ [x])) : nGo R (x :: B) = ⟨[], false, B, (R ++ [x]).drop 2, 0⟩ := by
  have e : fFeed R false [x] = ⟨[], false, [(R ++ [x]).drop 2], 0⟩ := by
    have := fParse_full (T := []) h2 h1 h3
    rw [List.append_nil] at this
    rw [fFeed_go h, this, fParse_short (by simp)]
    rfl
  rw [nGo_told (by rw [e]) (by rw [e]; simp), e]
  rfl
theorem nGo_bad {R B : List UInt8} {x : UInt8} (h : fOk R false = true) (h2 : ¬(R ++ [x]).length < 2) (h1 : fMay (fLen (R ++ [x])) = false) : (nGo R (x :: B)).e = 12 := by
  have e : fFeed R false [x] = ⟨[], true, [], 12⟩ := by rw [fFeed_go h, fParse_bad h2 h1]; rfl
  rw [nGo_err (by rw [e]; decide), e]
theorem aw_n1 : nNx [] false [0, 2, 97, 98, 0, 1, 99] = ⟨[], false, [0, 1, 99], [97, 98], 0⟩ := by
  rw [nNx_go (by decide), nGo_fix (by decide) (by decide), nGo_fix (by decide) (by decide), nGo_fix (by decide) (by decide), nGo_full (by decide) (by decide) (by decide) (by decide)]
  rfl
theorem aw_n2 : (nNx [] false [0, 0]).e = 12 := by
  rw [nNx_go (by decide), nGo_fix (by decide) (by decide), nGo_bad (by decide) (by decide) (by decide)]
def awR : List UInt8 := [82, 82, 78, 48, 48, 48, 48, 48, 48, 48, 48, 49]
theorem aw_R : dR 7 0 1 [] [82, 82, 78, 48, 48, 48, 48, 48, 48, 48, 48, 49] [48, 48] = true := by decide +kernel
def awB : List UInt8 := mW (tyOf 7) (dIs 7 0 1 [] [82, 82, 78, 48, 48, 48, 48, 48, 48, 48, 48, 49] [48, 48])
theorem aw_B : mRe awB = 0 ∧ lOk 2 awB = true ∧ lOk 1 awB = false ∧ lKd 2 awB = 5 ∧ lI 2 awB (xS (mRT awB) (mRL awB)) = 1 ∧ awB.length ≤ 200 ∧ dWT 7 0 1 [] [82, 82, 78, 48, 48, 48, 48, 48, 48, 48, 48, 49] [48, 48] = tyOf 7 ∧ dWL 7 0 1 [] [82, 82, 78, 48, 48, 48, 48, 48, 48, 48, 48, 49] [48, 48] = dIs 7 0 1 [] [82, 82, 78, 48, 48, 48, 48, 48, 48, 48, 48, 49] [48, 48] ∧ dWe 7 0 1 [] [82, 82, 78, 48, 48, 48, 48, 48, 48, 48, 48, 49] [48, 48] = 0 ∧ mWx (tyOf 7) (dIs 7 0 1 [] [82, 82, 78, 48, 48, 48, 48, 48, 48, 48, 48, 49] [48, 48]) = awB ∧ mWe (tyOf 7) (dIs 7 0 1 [] [82, 82, 78, 48, 48, 48, 48, 48, 48, 48, 48, 49] [48, 48]) = 0 := by
  have hw := dw_yes aw_R
  have hR := dIs_R aw_R (by decide) (by decide)
  have hb := d_back aw_R (by decide) (by decide)
  have hm := mw_yes hR
  have hk := mR_back hR
  have hB := dB_len aw_R (by decide) (by decide)
  have e2 : lOk 2 awB = true := by
    unfold lOk awB
    rw [hk.2.1, hk.2.2, hb.2.1]; decide
  refine ⟨hk.1, e2, ?_, ?_, ?_, hB.2, hw.1, hw.2.1, hw.2.2, hm.1, hm.2⟩
  · unfold lOk awB
    rw [hk.2.1, hk.2.2, hb.2.1]; decide
  · unfold lKd awB
    rw [hk.2.1, hk.2.2, hb.2.1]; decide
  · rw [lI_yes e2]
    unfold awB
    rw [hk.2.1, hk.2.2, hb.2.2.2.1]
theorem aw_L : (dIs 7 0 1 [] [82, 82, 78, 48, 48, 48, 48, 48, 48, 48, 48, 49] [48, 48]).length ≤ 5 ∧ ∀ i, ((dIs 7 0 1 [] [82, 82, 78, 48, 48, 48, 48, 48, 48, 48, 48, 49] [48, 48]).getD i (0, [])).2.length ≤ 1000000 := by
  refine ⟨by rw [dIs_len]; exact (fOf_len 7).2, fun i => Nat.le_trans (val_len (dIs_R aw_R (by decide) (by decide)) i) (by decide)⟩
theorem ceqB {z : Int} {x : UInt8} (h : z = (x.toNat : Int)) : ∀ j, j < 1 → Ceq (getAt [SV.int .u8 z] j) (getAt (eB std fun _ => x) j) := fun j hj => by
  obtain rfl : j = 0 := by omega
  subst h
  exact .refl _
theorem aw_r1 : Reps eB 0 1 7 (lstS [[SV.int .u8 0], [SV.int .u8 2], [SV.int .u8 97], [SV.int .u8 98], [SV.int .u8 0], [SV.int .u8 1], [SV.int .u8 99]]) [0, 2, 97, 98, 0, 1, 99] :=
  Reps.lst (l := [[SV.int .u8 0], [SV.int .u8 2], [SV.int .u8 97], [SV.int .u8 98], [SV.int .u8 0], [SV.int .u8 1], [SV.int .u8 99]]) ⟨ceqB rfl, ceqB rfl, ceqB rfl, ceqB rfl, ceqB rfl, ceqB rfl, ceqB rfl, trivial⟩
theorem aw_r2 : Reps eB 0 1 2 (lstS [[SV.int .u8 0], [SV.int .u8 0]]) [0, 0] :=
  Reps.lst (l := [[SV.int .u8 0], [SV.int .u8 0]]) ⟨ceqB rfl, ceqB rfl, trivial⟩
theorem aw_l1 : lstOf eB 0 1 7 (lstS [[SV.int .u8 0], [SV.int .u8 2], [SV.int .u8 97], [SV.int .u8 98], [SV.int .u8 0], [SV.int .u8 1], [SV.int .u8 99]]) = [0, 2, 97, 98, 0, 1, 99] := lstOf_eq inj_eB aw_r1
theorem aw_l2 : lstOf eB 0 1 2 (lstS [[SV.int .u8 0], [SV.int .u8 0]]) = [0, 0] := lstOf_eq inj_eB aw_r2
theorem good_lAwake  : GoodP Tryz.prog gl0 9 [] (.bool true) := by
  refine fn_sound' (T := seatT) (G := gP3) (X := noX) seatT_ok gP3_ok noX_ok noI_ok mixed Tryz.func9 (.one) (fun A => []) (fun A => .bool true) fun A hA => ?_
  cbv
  repeat' (first | with_reducible exact True.intro | with_reducible exact dr_ok hA (by kernel_rfl) | with_reducible refine And.intro ?_ ?_ | (intro hc; cbv))
  all_goals (subst hA; simp only [std_add, std_sub, std_mul, std_quo, std_rem, std_band, std_bor, std_bxor, std_shl, std_shr, std_eq, std_ne, std_lt, std_le, std_conv, std_not, std_beq, std_bne, std_ite, std_want, std_and2, std_sadd, std_seq, std_sne, std_slt, std_sle, std_sgt, std_sge, std_slen, std_sget, std_scut, std_ofNat, std_toNat, std_nsub, std_nadd, std_lenOf, std_nz, std_nneg, std_inb, std_upto, std_slt63, std_grow, std_imp, std_impN, std_tr, std_tb, std_ti, std_ts, std_tn, std_tp, std_nmin, std_makes, std_room, std_zeros, std_nilq, std_notq, std_eqi, std_eqn, std_eqb, std_eqs, std_eqv, std_cat, std_lst, std_rset, std_rcopy, std_shift, std_eqr, std_strOf, std_bytesOf, std_isB, std_zOf, zOf_int, std_isI, isI_int, std_getL, std_nmul, std_sOf, sOf_str, std_isS, isS_str, strOf_lit, lstOf_lit inj_eB, lstOf_lit inj_eZ, lstOf_lit inj_eBs, lstOf_lit inj_eS, lstOf_lit inj_eI, lstOf_nil inj_eB, aw_l1, aw_l2, aw_n1, aw_n2, aw_B.2.2.2.2.2.2.1, aw_B.2.2.2.2.2.2.2.1, aw_B.2.2.2.2.2.2.2.2.1, aw_B.2.2.2.2.2.2.2.2.2.1, aw_B.2.2.2.2.2.2.2.2.2.2, aw_B.1, aw_B.2.1, aw_B.2.2.1, aw_B.2.2.2.1, aw_B.2.2.2.2.1] at *)
  all_goals first
    | done
    | decide
    | exact fun h => ⟨h, isB_lit _⟩
    | exact ⟨isRow_lit _, Nat.le_trans aw_L.1 (by decide), aw_L.2⟩
    | exact ⟨isRow_lit _, Nat.le_trans aw_B.2.2.2.2.2.1 (by decide)⟩
    | exact ⟨⟨isRow_nil, ⟨_, aw_r1⟩⟩, by decide, by decide⟩
    | exact ⟨⟨isRow_lit _, ⟨_, aw_r2⟩⟩, by decide, by decide⟩
    | trace_state
end Go.Vd

set_option linter.unusedVariables false
set_option linter.unusedSimpArgs false
set_option maxRecDepth 100000
set_option maxHeartbeats 8000000
namespace Go.Vd
open Go.Proofs
theorem s_rep (L : List (List UInt8)) : Reps eS [] 1 L.length (lstS (L.map fun z => [SV.str z])) L := by
  have h : All2 (fun c x => ∀ j, j < 1 → Ceq (getAt c j) (getAt (eS std fun _ => x) j)) (L.map fun z => [SV.str z]) L := by
    induction L with
    | nil => trivial
    | cons x l ih => exact ⟨cell_eS x, ih⟩
  have := Reps.lst (d := ([] : List UInt8)) h
  rw [List.length_map] at this
  exact this
def knL : List (List UInt8) := [[48, 49, 48, 48], [48, 49, 49, 48], [48, 52, 48, 48], [48, 52, 49, 48], [48, 52, 50, 48], [48, 52, 50, 49], [48, 52, 51, 48]]
theorem kn_yes {K : List (List UInt8)} (hK : K = knL) {s : List UInt8} {i : Nat} (hi : i < K.length) (h : K.getD i [] = s) : mT s = true := by
  subst hK
  subst h
  have h : ∀ i : Fin 7, mT (knL.getD i.val []) = true := by decide
  exact h ⟨i, hi⟩
theorem kn_no {K : List (List UInt8)} (hK : K = knL) {s : List UInt8} (h : ∀ j, j < K.length → ¬K.getD j [] = s) : mT s = false := by
  subst hK
  rw [Bool.eq_false_iff]
  intro e
  unfold mT at e
  simp only [List.contains_eq_mem, List.mem_cons, List.not_mem_nil, or_false, decide_eq_true_eq] at e
  rcases e with rfl | rfl | rfl | rfl | rfl | rfl | rfl
  · exact h 0 (by decide) rfl
  · exact h 1 (by decide) rfl
  · exact h 2 (by decide) rfl
  · exact h 3 (by decide) rfl
  · exact h 4 (by decide) rfl
  · exact h 5 (by decide) rfl
  · exact h 6 (by decide) rfl
theorem good_rKnown (s : List UInt8) : GoodP Tryz.prog gl0 93 [.str s] (.bool (std.tb fun _ => mT s)) := by
  refine fn_sound' (T := seatT) (G := noC) (X := noX) seatT_ok noC_ok noX_ok noI_ok mixed Tryz.func93 (.one) (fun A => [.str s]) (fun A => .bool (A.tb fun _ => mT s)) fun A hA => ?_
  obtain ⟨K, hK⟩ : ∃ K, K = knL := ⟨_, rfl⟩
  have hl : K.length = 7 := by subst hK; rfl
  cbv
  repeat' (first | with_reducible exact True.intro | with_reducible exact dr_ok hA (by kernel_rfl) | with_reducible refine And.intro ?_ ?_ | (intro hc; cbv))
  refine ⟨⟨{i : Nat // i ≤ K.length ∧ ∀ j, j < i → ¬K.getD j [] = s}, fun b i => [(4, .int .i64 (i.1 : Nat)), (3, rowS eS [] 1 A fun _ => K)], fun b i => [], fun i => K.length - i.1, true⟩, ⟨⟨0, by omega, fun j hj => absurd hj (by omega)⟩, ?_⟩, ?_⟩
  · cbv
    subst hA
    have h := s_rep K
    have he := h.eqr
    rw [hl] at h he
    subst hK
    simp [sS, hl]
    exact (s_rep knL).eqr
  · rintro ⟨i, hi, h0⟩
    cbv
    repeat' (first | with_reducible exact True.intro | with_reducible exact dr_ok hA (by kernel_rfl) | with_reducible refine And.intro ?_ ?_ | (intro hc; cbv))
    all_goals first
      | (fail_if_success (refine Exists.intro ?_ ?_)
         subst hA
         simp [-List.getD_eq_getElem?_getD, sS] at *
         first
           | done
           | omega
           | exact kn_yes hK (by omega) hc
           | (rw [kn_yes hK (by omega) hc]; done)
           | (rw [kn_no hK (fun j hj => h0 j (by omega))]; done)
           | exact kn_no hK (fun j hj => h0 j (by omega))
           | trace_state)
      | (have hlt : i < K.length := by (clear h0; subst hA; simp [-List.getD_eq_getElem?_getD, sS] at *; omega)
         have hne : ¬K.getD i [] = s := by (clear h0; subst hA; simp [-List.getD_eq_getElem?_getD, sS] at *; exact hc)
         refine ⟨⟨i + 1, by omega, fun j hj => ?_⟩, ?_, show K.length - (i + 1) < K.length - i by omega⟩
         · by_cases e : j = i
           · subst e; exact hne
           · exact h0 j (by omega)
         cbv
         subst hA
         simp [sS]
         first
           | exact (w64 (by omega)).trans (by omega)
           | trace_state)
      | trace_state
noncomputable def c_rKnown : Ct := fun A args => match args with
  | [.str s] => some (none, .bool (A.tb fun _ => mT s))
  | _ => none
noncomputable def gM7a : Ar → Pu := addC 93 c_rKnown (gM4)
theorem gM7a_ok : PuOk Tryz.prog gl0 (gM7a std) := by
  refine addC_ok (gM4_ok) ⟨_, Tryz.func93, rfl, by decide⟩ ?_
  · intro args p r h hp
    unfold c_rKnown at h
    split at h <;> cases h
    exact good_rKnown _
theorem good_rRight4 (T : List UInt8) (L : List It) (hL : L.length ≤ 1000000) (hS : ∀ i, (L.getD i (0, [])).2.length ≤ 1000000) : GoodP Tryz.prog gl0 97 [.agg [.str T, rowS eI (0, []) 2 std fun _ => L]] (.bool (std.tb fun _ => mR T L)) := by
  refine fn_sound' (T := seatT) (G := gM7a) (X := noX) seatT_ok gM7a_ok noX_ok noI_ok mixed Tryz.func97 (.one) (fun A => [.agg [.str T, rowS eI (0, []) 2 A fun _ => L]]) (fun A => .bool (A.tb fun _ => mR T L)) fun A hA => ?_
  cbv
  repeat' (first | with_reducible exact True.intro | with_reducible exact dr_ok hA (by kernel_rfl) | with_reducible refine And.intro ?_ ?_ | (intro hc; cbv))
  all_goals first
    | (fail_if_success (refine Exists.intro ?_ ?_)
       subst hA
       simp [sS] at *
       first
         | done
         | omega
         | exact (mR_head (by first | assumption | exact .inl (by assumption) | exact .inr (by assumption))).symm
         | exact mR_head (by first | assumption | exact .inl (by assumption) | exact .inr (by assumption))
         | trace_state)
    | skip
  have h0 : mT T = true ∧ ¬L = [] := by
    subst hA
    simp [sS] at hc
    exact hc
  clear hc
  refine ⟨⟨{i : Nat // i ≤ L.length ∧ mUp L i = true}, fun b i => [(3, .int .i64 (i.1 : Nat))], fun b i => [], fun i => L.length - i.1, true⟩, ⟨⟨0, by omega, rfl⟩, ?_⟩, ?_⟩
  · cbv
    subst hA
    simp [-List.getD_eq_getElem?_getD, sS]
  · rintro ⟨i, hi, hz⟩
    cbv
    repeat' (first | with_reducible exact True.intro | with_reducible exact dr_ok hA (by kernel_rfl) | with_reducible refine And.intro ?_ ?_ | (intro hc; cbv))
    all_goals first
      | (fail_if_success (refine Exists.intro ?_ ?_)
         subst hA
         simp [-List.getD_eq_getElem?_getD, sS] at *
         done)
      | (fail_if_success (refine Exists.intro ?_ ?_)
         have hx := hz
         clear hz
         subst hA
         simp [-List.getD_eq_getElem?_getD, sS] at *
         first
           | omega
           | exact hS _
           | exact fun h1 h2 => ⟨⟨h1, h2⟩, hc⟩
           | exact fun h1 h2 => ⟨⟨h1, h2⟩, by rw [wm1 h2 (by omega)]; omega⟩
           | exact fun h1 => ⟨h1, fun h2 => ⟨h1, h2⟩⟩
           | (rcases hc with hc | hc
              · exact mR_false (by assumption) (mOk_rr hc)
              · have h1 : 0 < i := hc.1
                rw [wm1 h1 (by omega), Int.toNat_natCast] at hc
                exact mR_false (by assumption) (mOk_lo h1 hc.2))
           | (have hie : i = L.length := by omega
              rw [hie] at hx
              rw [mR_true h0.1 h0.2 hx]
              done)
           | (have hie : i = L.length := by omega
              rw [hie] at hx
              exact mR_true h0.1 h0.2 hx)
           | trace_state)
      | (have hlt : i < L.length := by (clear hz; subst hA; simp [sS] at * <;> omega)
         have hok : mOk L i = true := by
           clear hz
           subst hA
           simp [-List.getD_eq_getElem?_getD, sS] at *
           refine mOk_yes (fun h1 => ?_) hc.1
           have h2 := hc.2 h1
           rw [wm1 h1 (by omega), Int.toNat_natCast] at h2
           exact h2
         obtain ⟨i', hi'⟩ : ∃ i', i' = i + 1 := ⟨_, rfl⟩
         refine ⟨⟨i', by omega, by rw [hi', mUp_succ, hz, hok]; rfl⟩, ?_, show L.length - i' < L.length - i by omega⟩
         cbv
         subst hA
         simp [sS]
         exact (w64 (by omega)).trans (by omega))
      | trace_state
noncomputable def c_rRight4 : Ct := fun A args => match args with
  | [.agg [.str T, .slc n 2 f]] => some (some (A.tp fun _ => isRow eI (0, []) 2 n f ∧ n ≤ 1000000 ∧ ∀ i, ((lstOf eI (0, []) 2 n f).getD i (0, [])).2.length ≤ 1000000), .bool (A.tb fun _ => mR T (lstOf eI (0, []) 2 n f)))
  | _ => none
noncomputable def gM7 : Ar → Pu := addC 97 c_rRight4 (gM7a)
theorem gM7_ok : PuOk Tryz.prog gl0 (gM7 std) := by
  refine addC_ok (gM7a_ok) ⟨_, Tryz.func97, rfl, by decide⟩ ?_
  · intro args p r h hp
    unfold c_rRight4 at h
    split at h <;> cases h
    exact good_sv (good_rRight4 _ _ (by rw [lstOf_length hp.1]; exact hp.2.1) hp.2.2) ⟨⟨_, rfl, rfl, hp.1.sv, trivial⟩, trivial⟩
end Go.Vd

set_option linter.unusedVariables false
set_option linter.unusedSimpArgs false
set_option maxRecDepth 100000
set_option maxHeartbeats 1000000
namespace Go.Vd
open Go.Proofs
theorem good24 (n : Int) : GoodP Tryz.prog gl0 141 [.int .i64 n] (r22 std n) := by
  refine fn_sound' (T := seatT) (G := noC) (X := noX) seatT_ok noC_ok noX_ok noI_ok mixed Tryz.func141 .one (fun A => [.int .i64 n]) (fun A => r22 A n) fun A hA => ?_
  cbv
  repeat with_reducible refine And.intro (dr_ok hA (by kernel_rfl)) ?_
  subst hA
  simp [std_add, std_sub, std_mul, std_quo, std_rem, std_band, std_bor, std_bxor, std_shl, std_shr, std_eq, std_ne, std_lt, std_le, std_conv, std_not, std_beq, std_bne, std_ite, std_want, std_and2, std_sadd, std_seq, std_sne, std_slt, std_sle, std_sgt, std_sge, std_slen, std_sget, std_scut, std_ofNat, std_toNat, std_nsub, std_nadd, std_lenOf, std_nz, std_nneg, std_inb, std_upto, std_slt63, std_grow, std_imp, std_impN, std_tr, std_tb, std_ti, std_ts, std_tn, std_tp, std_nmin, std_makes, std_room, std_zeros, std_nilq, std_notq, std_eqi, std_eqn, std_eqb, std_eqs, std_eqv, std_cat, std_lst, std_rset, std_rcopy, std_shift, std_eqr, std_strOf, std_bytesOf, std_isB, std_zOf, zOf_int, std_isI, isI_int, std_getL, std_nmul, std_sOf, sOf_str, std_isS, isS_str, bfield]
  rw [Bool.eq_iff_iff]
  simp
  omega
def bbit (h l : Nat) (n : Int) : Bool := if n ≤ 64 then h.testBit (64 - n).toNat else l.testBit (128 - n).toNat
def r25 (A : Ar) (h l n : Int) : SV := .bool (A.tb fun _ => bbit h.toNat l.toNat n)
theorem quo2 (a : Nat) (ha : a < 18446744073709551616) : IntKind.u64.wrap ((a : Int).tdiv 2) = ((a / 2 : Nat) : Int) := by
  rw [show ((a : Int).tdiv 2) = ((a / 2 : Nat) : Int) from rfl, wu64 ⟨by omega, by omega⟩]
theorem rem2 (a : Nat) : ((a : Int).tmod 2 == 1) = decide (a % 2 = 1) := by
  rw [show ((a : Int).tmod 2) = ((a % 2 : Nat) : Int) from rfl]
  by_cases h : a % 2 = 1
  · simp [h]
  · have : a % 2 = 0 := by omega
    simp [this]
theorem good25 {h l : Int} (n : Int) (hh : r64 h) (hl : r64 l) (h1 : 1 ≤ n) (h2 : n ≤ 128) : GoodP Tryz.prog gl0 142 [.agg [.int .u64 h, .int .u64 l], .int .i64 n] (r25 std h l n) := by
  obtain ⟨h, rfl, lh⟩ := r64_nat hh
  obtain ⟨l, rfl, ll⟩ := r64_nat hl
  refine fn_sound' (T := seatT) (G := noC) (X := noX) seatT_ok noC_ok noX_ok noI_ok mixed Tryz.func142 .one (fun A => [.agg [.int .u64 h, .int .u64 l], .int .i64 n]) (fun A => r25 A h l n) fun A hA => ?_
  cbv
  repeat' (first | with_reducible exact True.intro | with_reducible exact dr_ok hA (by kernel_rfl) | with_reducible refine And.intro ?_ ?_ | (intro hc; cbv))
  · have hn : 64 < n := by subst hA; simp [std_add, std_sub, std_mul, std_quo, std_rem, std_band, std_bor, std_bxor, std_shl, std_shr, std_eq, std_ne, std_lt, std_le, std_conv, std_not, std_beq, std_bne, std_ite, std_want, std_and2, std_sadd, std_seq, std_sne, std_slt, std_sle, std_sgt, std_sge, std_slen, std_sget, std_scut, std_ofNat, std_toNat, std_nsub, std_nadd, std_lenOf, std_nz, std_nneg, std_inb, std_upto, std_slt63, std_grow, std_imp, std_impN, std_tr, std_tb, std_ti, std_ts, std_tn, std_tp, std_nmin, std_makes, std_room, std_zeros, std_nilq, std_notq, std_eqi, std_eqn, std_eqb, std_eqs, std_eqv, std_cat, std_lst, std_rset, std_rcopy, std_shift, std_eqr, std_strOf, std_bytesOf, std_isB, std_zOf, zOf_int, std_isI, isI_int, std_getL, std_nmul, std_sOf, sOf_str, std_isS, isS_str] at hc; omega
    refine ⟨⟨{k : Nat // k ≤ (128 - n).toNat}, fun _ k => [(5, .int .u64 (A.ti fun _ => (l / 2 ^ k.1 : Nat))), (6, .int .i64 (A.ti fun _ => n - 64 + Int.ofNat k.1))], fun _ _ => [], fun k => (128 - n).toNat - k.1, true⟩, ⟨⟨0, by omega⟩, ?_⟩, ?_⟩
    · cbv
      subst hA
      simp [std_add, std_sub, std_mul, std_quo, std_rem, std_band, std_bor, std_bxor, std_shl, std_shr, std_eq, std_ne, std_lt, std_le, std_conv, std_not, std_beq, std_bne, std_ite, std_want, std_and2, std_sadd, std_seq, std_sne, std_slt, std_sle, std_sgt, std_sge, std_slen, std_sget, std_scut, std_ofNat, std_toNat, std_nsub, std_nadd, std_lenOf, std_nz, std_nneg, std_inb, std_upto, std_slt63, std_grow, std_imp, std_impN, std_tr, std_tb, std_ti, std_ts, std_tn, std_tp, std_nmin, std_makes, std_room, std_zeros, std_nilq, std_notq, std_eqi, std_eqn, std_eqb, std_eqs, std_eqv, std_cat, std_lst, std_rset, std_rcopy, std_shift, std_eqr, std_strOf, std_bytesOf, std_isB, std_zOf, zOf_int, std_isI, isI_int, std_getL, std_nmul, std_sOf, sOf_str, std_isS, isS_str]
      rw [w64 (by omega)]
    · rintro ⟨k, hk⟩
      cbv
      repeat' (first | with_reducible exact True.intro | with_reducible exact dr_ok hA (by kernel_rfl) | with_reducible refine And.intro ?_ ?_ | (intro hc; cbv))
      all_goals try (subst hA; simp [std_add, std_sub, std_mul, std_quo, std_rem, std_band, std_bor, std_bxor, std_shl, std_shr, std_eq, std_ne, std_lt, std_le, std_conv, std_not, std_beq, std_bne, std_ite, std_want, std_and2, std_sadd, std_seq, std_sne, std_slt, std_sle, std_sgt, std_sge, std_slen, std_sget, std_scut, std_ofNat, std_toNat, std_nsub, std_nadd, std_lenOf, std_nz, std_nneg, std_inb, std_upto, std_slt63, std_grow, std_imp, std_impN, std_tr, std_tb, std_ti, std_ts, std_tn, std_tp, std_nmin, std_makes, std_room, std_zeros, std_nilq, std_notq, std_eqi, std_eqn, std_eqb, std_eqs, std_eqv, std_cat, std_lst, std_rset, std_rcopy, std_shift, std_eqr, std_strOf, std_bytesOf, std_isB, std_zOf, zOf_int, std_isI, isI_int, std_getL, std_nmul, std_sOf, sOf_str, std_isS, isS_str]; done)
      · have hlt : k < (128 - n).toNat := by subst hA; simp [std_add, std_sub, std_mul, std_quo, std_rem, std_band, std_bor, std_bxor, std_shl, std_shr, std_eq, std_ne, std_lt, std_le, std_conv, std_not, std_beq, std_bne, std_ite, std_want, std_and2, std_sadd, std_seq, std_sne, std_slt, std_sle, std_sgt, std_sge, std_slen, std_sget, std_scut, std_ofNat, std_toNat, std_nsub, std_nadd, std_lenOf, std_nz, std_nneg, std_inb, std_upto, std_slt63, std_grow, std_imp, std_impN, std_tr, std_tb, std_ti, std_ts, std_tn, std_tp, std_nmin, std_makes, std_room, std_zeros, std_nilq, std_notq, std_eqi, std_eqn, std_eqb, std_eqs, std_eqv, std_cat, std_lst, std_rset, std_rcopy, std_shift, std_eqr, std_strOf, std_bytesOf, std_isB, std_zOf, zOf_int, std_isI, isI_int, std_getL, std_nmul, std_sOf, sOf_str, std_isS, isS_str] at hc; omega
        refine ⟨⟨k + 1, by omega⟩, ?_, show (128 - n).toNat - (k + 1) < (128 - n).toNat - k by omega⟩
        cbv
        repeat' (first | with_reducible exact True.intro | with_reducible exact dr_ok hA (by kernel_rfl) | with_reducible refine And.intro ?_ ?_ | (intro hc; cbv))
        all_goals (subst hA; simp only [std_add, std_sub, std_mul, std_quo, std_rem, std_band, std_bor, std_bxor, std_shl, std_shr, std_eq, std_ne, std_lt, std_le, std_conv, std_not, std_beq, std_bne, std_ite, std_want, std_and2, std_sadd, std_seq, std_sne, std_slt, std_sle, std_sgt, std_sge, std_slen, std_sget, std_scut, std_ofNat, std_toNat, std_nsub, std_nadd, std_lenOf, std_nz, std_nneg, std_inb, std_upto, std_slt63, std_grow, std_imp, std_impN, std_tr, std_tb, std_ti, std_ts, std_tn, std_tp, std_nmin, std_makes, std_room, std_zeros, std_nilq, std_notq, std_eqi, std_eqn, std_eqb, std_eqs, std_eqv, std_cat, std_lst, std_rset, std_rcopy, std_shift, std_eqr, std_strOf, std_bytesOf, std_isB, std_zOf, zOf_int, std_isI, isI_int, std_getL, std_nmul, std_sOf, sOf_str, std_isS, isS_str])
        · have := quo2 (l / 2 ^ k) (Nat.lt_of_le_of_lt (Nat.div_le_self _ _) ll)
          rw [Nat.div_div_eq_div_mul, ← Nat.pow_succ] at this
          exact this
        · rw [w64 (by simp only [Int.ofNat_eq_natCast]; omega)]
          show n - 64 + Int.ofNat k + 1 = n - 64 + Int.ofNat (k + 1)
          simp only [Int.ofNat_eq_natCast]
          omega
      · have hk8 : k = (128 - n).toNat := by subst hA; simp [std_add, std_sub, std_mul, std_quo, std_rem, std_band, std_bor, std_bxor, std_shl, std_shr, std_eq, std_ne, std_lt, std_le, std_conv, std_not, std_beq, std_bne, std_ite, std_want, std_and2, std_sadd, std_seq, std_sne, std_slt, std_sle, std_sgt, std_sge, std_slen, std_sget, std_scut, std_ofNat, std_toNat, std_nsub, std_nadd, std_lenOf, std_nz, std_nneg, std_inb, std_upto, std_slt63, std_grow, std_imp, std_impN, std_tr, std_tb, std_ti, std_ts, std_tn, std_tp, std_nmin, std_makes, std_room, std_zeros, std_nilq, std_notq, std_eqi, std_eqn, std_eqb, std_eqs, std_eqv, std_cat, std_lst, std_rset, std_rcopy, std_shift, std_eqr, std_strOf, std_bytesOf, std_isB, std_zOf, zOf_int, std_isI, isI_int, std_getL, std_nmul, std_sOf, sOf_str, std_isS, isS_str] at hc; omega
        subst hA
        simp only [std_add, std_sub, std_mul, std_quo, std_rem, std_band, std_bor, std_bxor, std_shl, std_shr, std_eq, std_ne, std_lt, std_le, std_conv, std_not, std_beq, std_bne, std_ite, std_want, std_and2, std_sadd, std_seq, std_sne, std_slt, std_sle, std_sgt, std_sge, std_slen, std_sget, std_scut, std_ofNat, std_toNat, std_nsub, std_nadd, std_lenOf, std_nz, std_nneg, std_inb, std_upto, std_slt63, std_grow, std_imp, std_impN, std_tr, std_tb, std_ti, std_ts, std_tn, std_tp, std_nmin, std_makes, std_room, std_zeros, std_nilq, std_notq, std_eqi, std_eqn, std_eqb, std_eqs, std_eqv, std_cat, std_lst, std_rset, std_rcopy, std_shift, std_eqr, std_strOf, std_bytesOf, std_isB, std_zOf, zOf_int, std_isI, isI_int, std_getL, std_nmul, std_sOf, sOf_str, std_isS, isS_str]
        have := rem2 (l / 2 ^ k)
        show (((l / 2 ^ k : Nat) : Int).tmod 2 == 1) = bbit h l n
        rw [this, bbit, if_neg (by omega), ← hk8, Nat.testBit_eq_decide_div_mod_eq]
  · have hn : n ≤ 64 := by subst hA; simp [std_add, std_sub, std_mul, std_quo, std_rem, std_band, std_bor, std_bxor, std_shl, std_shr, std_eq, std_ne, std_lt, std_le, std_conv, std_not, std_beq, std_bne, std_ite, std_want, std_and2, std_sadd, std_seq, std_sne, std_slt, std_sle, std_sgt, std_sge, std_slen, std_sget, std_scut, std_ofNat, std_toNat, std_nsub, std_nadd, std_lenOf, std_nz, std_nneg, std_inb, std_upto, std_slt63, std_grow, std_imp, std_impN, std_tr, std_tb, std_ti, std_ts, std_tn, std_tp, std_nmin, std_makes, std_room, std_zeros, std_nilq, std_notq, std_eqi, std_eqn, std_eqb, std_eqs, std_eqv, std_cat, std_lst, std_rset, std_rcopy, std_shift, std_eqr, std_strOf, std_bytesOf, std_isB, std_zOf, zOf_int, std_isI, isI_int, std_getL, std_nmul, std_sOf, sOf_str, std_isS, isS_str] at hc; omega
    refine ⟨⟨{k : Nat // k ≤ (64 - n).toNat}, fun _ k => [(5, .int .u64 (A.ti fun _ => (h / 2 ^ k.1 : Nat))), (6, .int .i64 (A.ti fun _ => n + Int.ofNat k.1))], fun _ _ => [], fun k => (64 - n).toNat - k.1, true⟩, ⟨⟨0, by omega⟩, ?_⟩, ?_⟩
    · cbv
      subst hA
      simp [std_add, std_sub, std_mul, std_quo, std_rem, std_band, std_bor, std_bxor, std_shl, std_shr, std_eq, std_ne, std_lt, std_le, std_conv, std_not, std_beq, std_bne, std_ite, std_want, std_and2, std_sadd, std_seq, std_sne, std_slt, std_sle, std_sgt, std_sge, std_slen, std_sget, std_scut, std_ofNat, std_toNat, std_nsub, std_nadd, std_lenOf, std_nz, std_nneg, std_inb, std_upto, std_slt63, std_grow, std_imp, std_impN, std_tr, std_tb, std_ti, std_ts, std_tn, std_tp, std_nmin, std_makes, std_room, std_zeros, std_nilq, std_notq, std_eqi, std_eqn, std_eqb, std_eqs, std_eqv, std_cat, std_lst, std_rset, std_rcopy, std_shift, std_eqr, std_strOf, std_bytesOf, std_isB, std_zOf, zOf_int, std_isI, isI_int, std_getL, std_nmul, std_sOf, sOf_str, std_isS, isS_str]
    · rintro ⟨k, hk⟩
      cbv
      repeat' (first | with_reducible exact True.intro | with_reducible exact dr_ok hA (by kernel_rfl) | with_reducible refine And.intro ?_ ?_ | (intro hc; cbv))
      all_goals try (subst hA; simp [std_add, std_sub, std_mul, std_quo, std_rem, std_band, std_bor, std_bxor, std_shl, std_shr, std_eq, std_ne, std_lt, std_le, std_conv, std_not, std_beq, std_bne, std_ite, std_want, std_and2, std_sadd, std_seq, std_sne, std_slt, std_sle, std_sgt, std_sge, std_slen, std_sget, std_scut, std_ofNat, std_toNat, std_nsub, std_nadd, std_lenOf, std_nz, std_nneg, std_inb, std_upto, std_slt63, std_grow, std_imp, std_impN, std_tr, std_tb, std_ti, std_ts, std_tn, std_tp, std_nmin, std_makes, std_room, std_zeros, std_nilq, std_notq, std_eqi, std_eqn, std_eqb, std_eqs, std_eqv, std_cat, std_lst, std_rset, std_rcopy, std_shift, std_eqr, std_strOf, std_bytesOf, std_isB, std_zOf, zOf_int, std_isI, isI_int, std_getL, std_nmul, std_sOf, sOf_str, std_isS, isS_str]; done)
      · have hlt : k < (64 - n).toNat := by subst hA; simp [std_add, std_sub, std_mul, std_quo, std_rem, std_band, std_bor, std_bxor, std_shl, std_shr, std_eq, std_ne, std_lt, std_le, std_conv, std_not, std_beq, std_bne, std_ite, std_want, std_and2, std_sadd, std_seq, std_sne, std_slt, std_sle, std_sgt, std_sge, std_slen, std_sget, std_scut, std_ofNat, std_toNat, std_nsub, std_nadd, std_lenOf, std_nz, std_nneg, std_inb, std_upto, std_slt63, std_grow, std_imp, std_impN, std_tr, std_tb, std_ti, std_ts, std_tn, std_tp, std_nmin, std_makes, std_room, std_zeros, std_nilq, std_notq, std_eqi, std_eqn, std_eqb, std_eqs, std_eqv, std_cat, std_lst, std_rset, std_rcopy, std_shift, std_eqr, std_strOf, std_bytesOf, std_isB, std_zOf, zOf_int, std_isI, isI_int, std_getL, std_nmul, std_sOf, sOf_str, std_isS, isS_str] at hc; omega
        refine ⟨⟨k + 1, by omega⟩, ?_, show (64 - n).toNat - (k + 1) < (64 - n).toNat - k by omega⟩
        cbv
        repeat' (first | with_reducible exact True.intro | with_reducible exact dr_ok hA (by kernel_rfl) | with_reducible refine And.intro ?_ ?_ | (intro hc; cbv))
        all_goals (subst hA; simp only [std_add, std_sub, std_mul, std_quo, std_rem, std_band, std_bor, std_bxor, std_shl, std_shr, std_eq, std_ne, std_lt, std_le, std_conv, std_not, std_beq, std_bne, std_ite, std_want, std_and2, std_sadd, std_seq, std_sne, std_slt, std_sle, std_sgt, std_sge, std_slen, std_sget, std_scut, std_ofNat, std_toNat, std_nsub, std_nadd, std_lenOf, std_nz, std_nneg, std_inb, std_upto, std_slt63, std_grow, std_imp, std_impN, std_tr, std_tb, std_ti, std_ts, std_tn, std_tp, std_nmin, std_makes, std_room, std_zeros, std_nilq, std_notq, std_eqi, std_eqn, std_eqb, std_eqs, std_eqv, std_cat, std_lst, std_rset, std_rcopy, std_shift, std_eqr, std_strOf, std_bytesOf, std_isB, std_zOf, zOf_int, std_isI, isI_int, std_getL, std_nmul, std_sOf, sOf_str, std_isS, isS_str])
        · have := quo2 (h / 2 ^ k) (Nat.lt_of_le_of_lt (Nat.div_le_self _ _) lh)
          rw [Nat.div_div_eq_div_mul, ← Nat.pow_succ] at this
          exact this
        · rw [w64 (by simp only [Int.ofNat_eq_natCast]; omega)]
          show n + Int.ofNat k + 1 = n + Int.ofNat (k + 1)
          simp only [Int.ofNat_eq_natCast]
          omega
      · have hk8 : k = (64 - n).toNat := by subst hA; simp [std_add, std_sub, std_mul, std_quo, std_rem, std_band, std_bor, std_bxor, std_shl, std_shr, std_eq, std_ne, std_lt, std_le, std_conv, std_not, std_beq, std_bne, std_ite, std_want, std_and2, std_sadd, std_seq, std_sne, std_slt, std_sle, std_sgt, std_sge, std_slen, std_sget, std_scut, std_ofNat, std_toNat, std_nsub, std_nadd, std_lenOf, std_nz, std_nneg, std_inb, std_upto, std_slt63, std_grow, std_imp, std_impN, std_tr, std_tb, std_ti, std_ts, std_tn, std_tp, std_nmin, std_makes, std_room, std_zeros, std_nilq, std_notq, std_eqi, std_eqn, std_eqb, std_eqs, std_eqv, std_cat, std_lst, std_rset, std_rcopy, std_shift, std_eqr, std_strOf, std_bytesOf, std_isB, std_zOf, zOf_int, std_isI, isI_int, std_getL, std_nmul, std_sOf, sOf_str, std_isS, isS_str] at hc; omega
        subst hA
        simp only [std_add, std_sub, std_mul, std_quo, std_rem, std_band, std_bor, std_bxor, std_shl, std_shr, std_eq, std_ne, std_lt, std_le, std_conv, std_not, std_beq, std_bne, std_ite, std_want, std_and2, std_sadd, std_seq, std_sne, std_slt, std_sle, std_sgt, std_sge, std_slen, std_sget, std_scut, std_ofNat, std_toNat, std_nsub, std_nadd, std_lenOf, std_nz, std_nneg, std_inb, std_upto, std_slt63, std_grow, std_imp, std_impN, std_tr, std_tb, std_ti, std_ts, std_tn, std_tp, std_nmin, std_makes, std_room, std_zeros, std_nilq, std_notq, std_eqi, std_eqn, std_eqb, std_eqs, std_eqv, std_cat, std_lst, std_rset, std_rcopy, std_shift, std_eqr, std_strOf, std_bytesOf, std_isB, std_zOf, zOf_int, std_isI, isI_int, std_getL, std_nmul, std_sOf, sOf_str, std_isS, isS_str]
        have := rem2 (h / 2 ^ k)
        show (((h / 2 ^ k : Nat) : Int).tmod 2 == 1) = bbit h l n
        rw [this, bbit, if_pos (by omega), ← hk8, Nat.testBit_eq_decide_div_mod_eq]
def r26 (A : Ar) (n : Int) : SV := .int .u64 (A.ti fun _ => (2 ^ n.toNat : Nat))
theorem good26 (n : Int) (h1 : 0 ≤ n) (h2 : n ≤ 63) : GoodP Tryz.prog gl0 152 [.int .i64 n] (r26 std n) := by
  refine fn_sound' (T := seatT) (G := noC) (X := noX) seatT_ok noC_ok noX_ok noI_ok mixed Tryz.func152 .one (fun A => [.int .i64 n]) (fun A => r26 A n) fun A hA => ?_
  cbv
  refine ⟨⟨{k : Nat // k ≤ n.toNat}, fun _ k => [(3, .int .u64 (A.ti fun _ => (2 ^ k.1 : Nat))), (4, .int .i64 (k.1 : Nat))], fun _ _ => [], fun k => n.toNat - k.1, true⟩, ⟨⟨0, by omega⟩, ?_⟩, ?_⟩
  · cbv
    subst hA
    simp [std_add, std_sub, std_mul, std_quo, std_rem, std_band, std_bor, std_bxor, std_shl, std_shr, std_eq, std_ne, std_lt, std_le, std_conv, std_not, std_beq, std_bne, std_ite, std_want, std_and2, std_sadd, std_seq, std_sne, std_slt, std_sle, std_sgt, std_sge, std_slen, std_sget, std_scut, std_ofNat, std_toNat, std_nsub, std_nadd, std_lenOf, std_nz, std_nneg, std_inb, std_upto, std_slt63, std_grow, std_imp, std_impN, std_tr, std_tb, std_ti, std_ts, std_tn, std_tp, std_nmin, std_makes, std_room, std_zeros, std_nilq, std_notq, std_eqi, std_eqn, std_eqb, std_eqs, std_eqv, std_cat, std_lst, std_rset, std_rcopy, std_shift, std_eqr, std_strOf, std_bytesOf, std_isB, std_zOf, zOf_int, std_isI, isI_int, std_getL, std_nmul, std_sOf, sOf_str, std_isS, isS_str]
  · rintro ⟨k, hk⟩
    cbv
    repeat' (first | with_reducible exact True.intro | with_reducible exact dr_ok hA (by kernel_rfl) | with_reducible refine And.intro ?_ ?_ | (intro hc; cbv))
    · have hlt : k < n.toNat := by subst hA; simp [std_add, std_sub, std_mul, std_quo, std_rem, std_band, std_bor, std_bxor, std_shl, std_shr, std_eq, std_ne, std_lt, std_le, std_conv, std_not, std_beq, std_bne, std_ite, std_want, std_and2, std_sadd, std_seq, std_sne, std_slt, std_sle, std_sgt, std_sge, std_slen, std_sget, std_scut, std_ofNat, std_toNat, std_nsub, std_nadd, std_lenOf, std_nz, std_nneg, std_inb, std_upto, std_slt63, std_grow, std_imp, std_impN, std_tr, std_tb, std_ti, std_ts, std_tn, std_tp, std_nmin, std_makes, std_room, std_zeros, std_nilq, std_notq, std_eqi, std_eqn, std_eqb, std_eqs, std_eqv, std_cat, std_lst, std_rset, std_rcopy, std_shift, std_eqr, std_strOf, std_bytesOf, std_isB, std_zOf, zOf_int, std_isI, isI_int, std_getL, std_nmul, std_sOf, sOf_str, std_isS, isS_str] at hc; omega
      refine ⟨⟨k + 1, by omega⟩, ?_, show n.toNat - (k + 1) < n.toNat - k by omega⟩
      cbv
      repeat' (first | with_reducible exact True.intro | with_reducible exact dr_ok hA (by kernel_rfl) | with_reducible refine And.intro ?_ ?_ | (intro hc; cbv))
      all_goals (subst hA; simp only [std_add, std_sub, std_mul, std_quo, std_rem, std_band, std_bor, std_bxor, std_shl, std_shr, std_eq, std_ne, std_lt, std_le, std_conv, std_not, std_beq, std_bne, std_ite, std_want, std_and2, std_sadd, std_seq, std_sne, std_slt, std_sle, std_sgt, std_sge, std_slen, std_sget, std_scut, std_ofNat, std_toNat, std_nsub, std_nadd, std_lenOf, std_nz, std_nneg, std_inb, std_upto, std_slt63, std_grow, std_imp, std_impN, std_tr, std_tb, std_ti, std_ts, std_tn, std_tp, std_nmin, std_makes, std_room, std_zeros, std_nilq, std_notq, std_eqi, std_eqn, std_eqb, std_eqs, std_eqv, std_cat, std_lst, std_rset, std_rcopy, std_shift, std_eqr, std_strOf, std_bytesOf, std_isB, std_zOf, zOf_int, std_isI, isI_int, std_getL, std_nmul, std_sOf, sOf_str, std_isS, isS_str])
      · have := pow_lt64 (show k + 1 ≤ 63 by omega)
        show IntKind.u64.wrap (2 * ((2 ^ k : Nat) : Int)) = ((2 ^ (k + 1) : Nat) : Int)
        rw [Nat.pow_succ] at this ⊢
        rw [wu64 ⟨by omega, by omega⟩]
        omega
      · show IntKind.i64.wrap ((k : Int) + 1) = ((k + 1 : Nat) : Int)
        rw [w64 (by omega)]
        omega
    · have hk8 : k = n.toNat := by subst hA; simp [std_add, std_sub, std_mul, std_quo, std_rem, std_band, std_bor, std_bxor, std_shl, std_shr, std_eq, std_ne, std_lt, std_le, std_conv, std_not, std_beq, std_bne, std_ite, std_want, std_and2, std_sadd, std_seq, std_sne, std_slt, std_sle, std_sgt, std_sge, std_slen, std_sget, std_scut, std_ofNat, std_toNat, std_nsub, std_nadd, std_lenOf, std_nz, std_nneg, std_inb, std_upto, std_slt63, std_grow, std_imp, std_impN, std_tr, std_tb, std_ti, std_ts, std_tn, std_tp, std_nmin, std_makes, std_room, std_zeros, std_nilq, std_notq, std_eqi, std_eqn, std_eqb, std_eqs, std_eqv, std_cat, std_lst, std_rset, std_rcopy, std_shift, std_eqr, std_strOf, std_bytesOf, std_isB, std_zOf, zOf_int, std_isI, isI_int, std_getL, std_nmul, std_sOf, sOf_str, std_isS, isS_str] at hc; omega
      subst hA hk8
      simp only [std_add, std_sub, std_mul, std_quo, std_rem, std_band, std_bor, std_bxor, std_shl, std_shr, std_eq, std_ne, std_lt, std_le, std_conv, std_not, std_beq, std_bne, std_ite, std_want, std_and2, std_sadd, std_seq, std_sne, std_slt, std_sle, std_sgt, std_sge, std_slen, std_sget, std_scut, std_ofNat, std_toNat, std_nsub, std_nadd, std_lenOf, std_nz, std_nneg, std_inb, std_upto, std_slt63, std_grow, std_imp, std_impN, std_tr, std_tb, std_ti, std_ts, std_tn, std_tp, std_nmin, std_makes, std_room, std_zeros, std_nilq, std_notq, std_eqi, std_eqn, std_eqb, std_eqs, std_eqv, std_cat, std_lst, std_rset, std_rcopy, std_shift, std_eqr, std_strOf, std_bytesOf, std_isB, std_zOf, zOf_int, std_isI, isI_int, std_getL, std_nmul, std_sOf, sOf_str, std_isS, isS_str]
end Go.Vd

set_option linter.unusedVariables false
set_option linter.unusedSimpArgs false
set_option maxRecDepth 100000
set_option maxHeartbeats 1000000
namespace Go.Vd
open Go.Proofs
noncomputable def c25 : Ct := fun A args => match args with
  | [.agg [.int .u64 h, .int .u64 l], .int .i64 n] => some (some (A.tp fun _ => r64 h ∧ r64 l ∧ 1 ≤ n ∧ n ≤ 128), r25 A h l n)
  | _ => none
noncomputable def c26 : Ct := fun A args => match args with
  | [.int .i64 n] => some (some (A.tp fun _ => 0 ≤ n ∧ n ≤ 63), r26 A n)
  | _ => none
noncomputable def g7 : Ar → Pu := addC 141 c22 (addC 142 c25 (addC 152 c26 g4))
theorem g7_ok : PuOk Tryz.prog gl0 (g7 std) := by
  refine addC_ok (addC_ok (addC_ok g4_ok ⟨_, Tryz.func152, rfl, by decide⟩ ?_) ⟨_, Tryz.func142, rfl, by decide⟩ ?_) ⟨_, Tryz.func141, rfl, by decide⟩ ?_
  · intro args p r h hp
    unfold c26 at h
    split at h <;> cases h
    exact good26 _ hp.1 hp.2
  · intro args p r h hp
    unfold c25 at h
    split at h <;> cases h
    exact good25 _ hp.1 hp.2.1 hp.2.2.1 hp.2.2.2
  · intro args p r h hp
    unfold c22 at h
    split at h <;> cases h
    exact good24 _
theorem bright_bits (h l : Nat) : bright h l = (!bbit h l 65 && (bbit h l 1 == decide (0 < l))) := by
  have e1 : bbit h l 65 = l.testBit 63 := rfl
  have e2 : bbit h l 1 = h.testBit 63 := rfl
  rw [e1, e2, bright]
  congr 2
  rw [decide_eq_decide]; omega
theorem bhas_bit (h l : Nat) (n : Int) : bhas h l n = (bfield n && bbit h l n) := rfl
theorem good12 {h l : Int} (hh : r64 h) (hl : r64 l) : GoodP Tryz.prog gl0 140 [.agg [.int .u64 h, .int .u64 l]] (r11 std h l) := by
  obtain ⟨h, rfl, lh⟩ := r64_nat hh
  obtain ⟨l, rfl, ll⟩ := r64_nat hl
  refine fn_sound' (T := seatT) (G := g7) (X := noX) seatT_ok g7_ok noX_ok noI_ok mixed Tryz.func140 .one (fun A => [.agg [.int .u64 h, .int .u64 l]]) (fun A => r11 A h l) fun A hA => ?_
  cbv
  repeat with_reducible refine And.intro (dr_ok hA (by kernel_rfl)) ?_
  subst hA
  simp [std_add, std_sub, std_mul, std_quo, std_rem, std_band, std_bor, std_bxor, std_shl, std_shr, std_eq, std_ne, std_lt, std_le, std_conv, std_not, std_beq, std_bne, std_ite, std_want, std_and2, std_sadd, std_seq, std_sne, std_slt, std_sle, std_sgt, std_sge, std_slen, std_sget, std_scut, std_ofNat, std_toNat, std_nsub, std_nadd, std_lenOf, std_nz, std_nneg, std_inb, std_upto, std_slt63, std_grow, std_imp, std_impN, std_tr, std_tb, std_ti, std_ts, std_tn, std_tp, std_nmin, std_makes, std_room, std_zeros, std_nilq, std_notq, std_eqi, std_eqn, std_eqb, std_eqs, std_eqv, std_cat, std_lst, std_rset, std_rcopy, std_shift, std_eqr, std_strOf, std_bytesOf, std_isB, std_zOf, zOf_int, std_isI, isI_int, std_getL, std_nmul, std_sOf, sOf_str, std_isS, isS_str, hh, hl, bright_bits]
theorem good14 {h l : Int} (n : Int) (hh : r64 h) (hl : r64 l) : GoodP Tryz.prog gl0 95 [.agg [.int .u64 h, .int .u64 l], .int .i64 n] (r13 std h l n) := by
  obtain ⟨h, rfl, lh⟩ := r64_nat hh
  obtain ⟨l, rfl, ll⟩ := r64_nat hl
  refine fn_sound' (T := seatT) (G := g7) (X := noX) seatT_ok g7_ok noX_ok noI_ok mixed Tryz.func95 .one (fun A => [.agg [.int .u64 h, .int .u64 l], .int .i64 n]) (fun A => r13 A h l n) fun A hA => ?_
  cbv
  repeat with_reducible refine And.intro (dr_ok hA (by kernel_rfl)) ?_
  subst hA
  simp [std_add, std_sub, std_mul, std_quo, std_rem, std_band, std_bor, std_bxor, std_shl, std_shr, std_eq, std_ne, std_lt, std_le, std_conv, std_not, std_beq, std_bne, std_ite, std_want, std_and2, std_sadd, std_seq, std_sne, std_slt, std_sle, std_sgt, std_sge, std_slen, std_sget, std_scut, std_ofNat, std_toNat, std_nsub, std_nadd, std_lenOf, std_nz, std_nneg, std_inb, std_upto, std_slt63, std_grow, std_imp, std_impN, std_tr, std_tb, std_ti, std_ts, std_tn, std_tp, std_nmin, std_makes, std_room, std_zeros, std_nilq, std_notq, std_eqi, std_eqn, std_eqb, std_eqs, std_eqv, std_cat, std_lst, std_rset, std_rcopy, std_shift, std_eqr, std_strOf, std_bytesOf, std_isB, std_zOf, zOf_int, std_isI, isI_int, std_getL, std_nmul, std_sOf, sOf_str, std_isS, isS_str, bhas_bit]
  cases hf : bfield n
  · simp
  · have hf' := bfield_iff.1 hf
    simp [hh, hl]
    omega
noncomputable def g8 : Ar → Pu := addC 140 c11 (addC 95 c13 g7)
theorem g8_ok : PuOk Tryz.prog gl0 (g8 std) := by
  refine addC_ok (addC_ok g7_ok ⟨_, Tryz.func95, rfl, by decide⟩ ?_) ⟨_, Tryz.func140, rfl, by decide⟩ ?_
  · intro args p r h hp
    unfold c13 at h
    split at h <;> cases h
    exact good14 _ hp.1 hp.2
  · intro args p r h hp
    unfold c11 at h
    split at h <;> cases h
    exact good12 hp.1 hp.2
theorem add_or (k : Nat) : ∀ a : Nat, a.testBit k = false → a + 2 ^ k = a ||| 2 ^ k := by
  induction k with
  | zero =>
    intro a h
    apply Nat.eq_of_testBit_eq
    intro i
    have h0 : a % 2 = 0 := by
      rw [Nat.testBit_zero] at h
      have := of_decide_eq_false h
      omega
    cases i with
    | zero => rw [Nat.testBit_or, Nat.testBit_zero, Nat.testBit_zero, Nat.testBit_zero]; simp; omega
    | succ i =>
      rw [Nat.testBit_or, Nat.testBit_succ, Nat.testBit_succ, Nat.testBit_succ]
      rw [show (a + 2 ^ 0) / 2 = a / 2 by simp; omega]
      simp
  | succ k ih =>
    intro a h
    rw [Nat.testBit_succ] at h
    have := ih (a / 2) h
    apply Nat.eq_of_testBit_eq
    intro i
    have hp : 2 ^ (k + 1) = 2 * 2 ^ k := by rw [Nat.pow_succ, Nat.mul_comm]
    cases i with
    | zero => rw [Nat.testBit_or, Nat.testBit_zero, Nat.testBit_zero, Nat.testBit_zero, hp]; simp
    | succ i =>
      rw [Nat.testBit_or, Nat.testBit_succ, Nat.testBit_succ, Nat.testBit_succ, hp]
      rw [show (a + 2 * 2 ^ k) / 2 = a / 2 + 2 ^ k by omega, show 2 * 2 ^ k / 2 = 2 ^ k by omega, this, Nat.testBit_or]
theorem or_same (k : Nat) (a : Nat) (h : a.testBit k = true) : a ||| 2 ^ k = a := by
  apply Nat.eq_of_testBit_eq
  intro i
  rw [Nat.testBit_or, Nat.testBit_two_pow]
  by_cases e : k = i
  · subst e; simp [h]
  · simp [e]
/-- What putting does, by sums. -/
theorem put_had {h l : Nat} {n : Int} (hb : bright h l = true) (hf : bfield n = true) (hq : bbit h l n = true) : bput h l n = (h, l) := by
  have h0 := bright_iff.1 hb
  unfold bbit at hq
  unfold bput
  rw [hb, hf]
  simp only [Bool.and_self, if_true]
  by_cases hn : n ≤ 64
  · rw [if_pos hn] at hq
    simp only [bhi, blo, hn, if_true, Nat.or_zero]
    rw [or_same _ _ hq]
    by_cases hl : l = 0
    · simp [hl]
    · have ht : h.testBit 63 = true := by rw [h0.2]; simp [hl]
      have := or_same 63 h ht
      simp [hl]
      exact this
  · rw [if_neg hn] at hq
    simp only [bhi, blo, hn, if_false, Nat.or_zero]
    rw [or_same _ _ hq]
    have hl : l ≠ 0 := by intro e; subst e; simp at hq
    have ht : h.testBit 63 = true := by rw [h0.2]; simp [hl]
    have := or_same 63 h ht
    simp [hl]
    exact this
theorem put_hi {h l : Nat} {n : Int} (hb : bright h l = true) (hf : bfield n = true) (hq : bbit h l n = false) (hn : n ≤ 64) : bput h l n = (h + 2 ^ (64 - n).toNat, l) := by
  have h0 := bright_iff.1 hb
  have h1 := bfield_iff.1 hf
  unfold bbit at hq
  rw [if_pos hn] at hq
  unfold bput
  rw [hb, hf, add_or _ _ hq]
  simp only [Bool.and_self, if_true, bhi, blo, hn, Nat.or_zero]
  by_cases hl : l = 0
  · simp [hl]
  · have ht : (h ||| 2 ^ (64 - n).toNat).testBit 63 = true := by rw [Nat.testBit_or, h0.2]; simp [hl]
    have := or_same 63 _ ht
    simp [hl]
    exact this
theorem put_lo {h l : Nat} {n : Int} (hb : bright h l = true) (hf : bfield n = true) (hq : bbit h l n = false) (hn : ¬ n ≤ 64) : bput h l n = (if l = 0 then h + 2 ^ 63 else h, l + 2 ^ (128 - n).toNat) := by
  have h0 := bright_iff.1 hb
  have h1 := bfield_iff.1 hf
  unfold bbit at hq
  rw [if_neg hn] at hq
  unfold bput
  rw [hb, hf, add_or _ _ hq]
  have hne : l ||| 2 ^ (128 - n).toNat ≠ 0 := fun e => by
    have := (or_zero_iff.1 e).2
    have := Nat.two_pow_pos (128 - n).toNat
    omega
  simp only [Bool.and_self, if_true, bhi, blo, hn, if_false, Nat.or_zero, hne, ne_eq, not_false_eq_true]
  by_cases hl : l = 0
  · have ht : h.testBit 63 = false := by rw [h0.2]; simp [hl]
    have := add_or 63 h ht
    simp [hl]
    exact this.symm
  · have ht : h.testBit 63 = true := by rw [h0.2]; simp [hl]
    have := or_same 63 h ht
    simp [hl]
    exact this
theorem wsum {a k : Nat} (hb : a + 2 ^ k < 18446744073709551616) : IntKind.u64.wrap ((a : Int) + 2 ^ k) = ((a + 2 ^ k : Nat) : Int) := by
  have e : (a : Int) + 2 ^ k = ((a + 2 ^ k : Nat) : Int) := by simp
  rw [e]
  generalize a + 2 ^ k = m at hb ⊢
  exact wu64 ⟨by omega, by omega⟩
theorem good8 {h l : Int} (n : Int) (hh : r64 h) (hl : r64 l) : GoodP Tryz.prog gl0 117 [.agg [.int .u64 h, .int .u64 l], .int .i64 n] (r7 std h l n) := by
  obtain ⟨h, rfl, lh⟩ := r64_nat hh
  obtain ⟨l, rfl, ll⟩ := r64_nat hl
  refine fn_sound' (T := seatT) (G := g8) (X := noX) seatT_ok g8_ok noX_ok noI_ok mixed Tryz.func117 .one (fun A => [.agg [.int .u64 h, .int .u64 l], .int .i64 n]) (fun A => r7 A h l n) fun A hA => ?_
  cbv
  repeat' (first | with_reducible exact True.intro | with_reducible exact dr_ok hA (by kernel_rfl) | with_reducible refine And.intro ?_ ?_ | (intro hc; cbv))
  all_goals (subst hA; simp [std_add, std_sub, std_mul, std_quo, std_rem, std_band, std_bor, std_bxor, std_shl, std_shr, std_eq, std_ne, std_lt, std_le, std_conv, std_not, std_beq, std_bne, std_ite, std_want, std_and2, std_sadd, std_seq, std_sne, std_slt, std_sle, std_sgt, std_sge, std_slen, std_sget, std_scut, std_ofNat, std_toNat, std_nsub, std_nadd, std_lenOf, std_nz, std_nneg, std_inb, std_upto, std_slt63, std_grow, std_imp, std_impN, std_tr, std_tb, std_ti, std_ts, std_tn, std_tp, std_nmin, std_makes, std_room, std_zeros, std_nilq, std_notq, std_eqi, std_eqn, std_eqb, std_eqs, std_eqv, std_cat, std_lst, std_rset, std_rcopy, std_shift, std_eqr, std_strOf, std_bytesOf, std_isB, std_zOf, zOf_int, std_isI, isI_int, std_getL, std_nmul, std_sOf, sOf_str, std_isS, isS_str] at *)
  all_goals have hlt := bput_lt n lh ll
  all_goals first
    | exact ⟨hh, hl⟩
    | (have hq : (bright h l && bfield n) = false := by rcases hc with hc | hc <;> simp [hc]
       simp [bput, berr, hq]; done)
    | (have hb : bright h l = true ∧ bfield n = true := by assumption
       have hf := bfield_iff.1 hb.2
       first
         | exact ⟨hh, hl, by omega, by omega⟩
         | (simp [berr, hb.1, hb.2]; done)
         | (rw [w64 (by omega)]; omega)
         | (rw [put_had hb.1 hb.2 (by assumption)]; done)
         | (rw [put_hi hb.1 hb.2 (by assumption) (by assumption)] at hlt ⊢
            first
              | done
              | (rw [w64 (by omega)]; exact wsum hlt.1))
         | (rw [put_lo hb.1 hb.2 (by assumption) (by omega)] at hlt ⊢
            first
              | (rw [w64 (by omega)]; exact wsum hlt.2)
              | (simp only [hc, if_true] at hlt ⊢
                 have := wsum hlt.1
                 simpa using this)
              | (simp only [hc, if_false]; done)))
    | trace_state
noncomputable def g9 : Ar → Pu := addC 117 c7 g8
theorem g9_ok : PuOk Tryz.prog gl0 (g9 std) := by
  refine addC_ok g8_ok ⟨_, Tryz.func117, rfl, by decide⟩ ?_
  intro args p r h hp
  unfold c7 at h
  split at h <;> cases h
  exact good8 _ hp.1 hp.2
end Go.Vd

