/- The frame's laws: awake, FrameRight. -/
import Derived.Test.YtakcggldilbilaaGreatDoorVdF5
import Derived.Test.YtakcggldilbilaaGreatDoorVdM2
import Derived.Test.YtakcggldilbilaaGreatDoorVdB7
import Derived.Test.YtakcggldilbilaaGreatDoorVdRow2
import Derived.Lib.SmallJoins
import Derived.Test.YtakcggldilbilaaGreatDoorRows
import Derived.Test.YtakcggldilbilaaGreatDoorCards
import Derived.Test.YtakcggldilbilaaGreatDoorTie
import Derived.Test.YtakcggldilbilaaGreatDoorVdH7
import Derived.ProofKit
import Derived.LaidMore
import Derived.OpenShut
import Derived.Stop.Joined
import Derived.SevenTiedAt
import Derived.Lib.LaidTab
set_option linter.unusedVariables false
set_option linter.unusedSimpArgs false
set_option maxRecDepth 100000
set_option maxHeartbeats 4000000
namespace Go.Vd
open Go.Proofs
def fPutR (L : List UInt8) : List UInt8 := if L.length = 0 then [] else if 2048 < L.length then [] else fPutL L
def fPutE (L : List UInt8) : Int := if L.length = 0 then 2 else if 2048 < L.length then 4 else 0
noncomputable def c_fPut : Ct := fun A args => match args with
  | [.slc n 1 f] => some (some (A.tp fun _ => isRow eB 0 1 n f ∧ n ≤ 1000000), .tup [rowS eB 0 1 A fun _ => fPutR (lstOf eB 0 1 n f), .int .i64 (A.ti fun _ => fPutE (lstOf eB 0 1 n f))])
  | _ => none
noncomputable def c_rfPut : Ct := fun A args => match args with
  | [.slc n 1 f] => some (some (A.tp fun _ => isRow eB 0 1 n f ∧ n ≤ 1000000), rowS eB 0 1 A fun _ => fPutL (lstOf eB 0 1 n f))
  | _ => none
noncomputable def c_fFeed : Ct := fun A args => match args with
  | [.agg [.slc n 1 f, .bool br], .slc m 1 g] => some (some (A.tp fun _ => (isRow eB 0 1 n f ∧ isRow eB 0 1 m g) ∧ n ≤ 20000 ∧ m ≤ 20000), .tup [sR A (fun _ => (fFeed (lstOf eB 0 1 n f) br (lstOf eB 0 1 m g)).rest) (A.tb fun _ => (fFeed (lstOf eB 0 1 n f) br (lstOf eB 0 1 m g)).br), rowS eBs [] 1 A fun _ => (fFeed (lstOf eB 0 1 n f) br (lstOf eB 0 1 m g)).told, .int .i64 (A.ti fun _ => (fFeed (lstOf eB 0 1 n f) br (lstOf eB 0 1 m g)).e)])
  | _ => none
noncomputable def c_rfFeed : Ct := fun A args => match args with
  | [.agg [.slc n 1 f, .bool br], .slc m 1 g] => some (some (A.tp fun _ => (isRow eB 0 1 n f ∧ isRow eB 0 1 m g) ∧ n ≤ 20000 ∧ m ≤ 20000), .tup [sR A (fun _ => (fFeed (lstOf eB 0 1 n f) br (lstOf eB 0 1 m g)).rest) (A.tb fun _ => (fFeed (lstOf eB 0 1 n f) br (lstOf eB 0 1 m g)).br), rowS eBs [] 1 A fun _ => (fFeed (lstOf eB 0 1 n f) br (lstOf eB 0 1 m g)).told, .int .i64 (A.ti fun _ => (fFeed (lstOf eB 0 1 n f) br (lstOf eB 0 1 m g)).e)])
  | _ => none
noncomputable def c_fSame : Ct := fun A args => match args with
  | [.agg [.slc n 1 f, .bool br], .agg [.slc m 1 g, .bool bs]] => some (some (A.tp fun _ => isRow eB 0 1 n f ∧ isRow eB 0 1 m g), .bool (A.tb fun _ => decide (br = bs ∧ lstOf eB 0 1 n f = lstOf eB 0 1 m g)))
  | _ => none
noncomputable def c_bLists : Ct := fun A args => match args with
  | [.slc n 1 f, .slc m 1 g] => some (some (A.tp fun _ => isRow eBs [] 1 n f ∧ isRow eBs [] 1 m g ∧ n ≤ 1000000), .bool (A.tb fun _ => decide (lstOf eBs [] 1 n f = lstOf eBs [] 1 m g)))
  | _ => none
noncomputable def gf4 : Ar → Pu := addC 64 c_fPut (addC 68 c_rfPut (addC 16 c_fFeed (addC 49 c_rfFeed (addC 14 c_fSame (addC 17 c_bLists (gf3))))))
theorem gf4_ok : PuOk Tryz.prog gl0 (gf4 std) := by
  refine addC_ok (addC_ok (addC_ok (addC_ok (addC_ok (addC_ok (gf3_ok) ⟨_, Tryz.func17, rfl, by decide⟩ ?_) ⟨_, Tryz.func14, rfl, by decide⟩ ?_) ⟨_, Tryz.func49, rfl, by decide⟩ ?_) ⟨_, Tryz.func16, rfl, by decide⟩ ?_) ⟨_, Tryz.func68, rfl, by decide⟩ ?_) ⟨_, Tryz.func64, rfl, by decide⟩ ?_
  · intro args p r h hp
    unfold c_bLists at h
    split at h <;> cases h
    exact good_sv (good_bLists _ _ (by rw [lstOf_length hp.1]; exact hp.2.2)) ⟨hp.1.sv, hp.2.1.sv, trivial⟩
  · intro args p r h hp
    unfold c_fSame at h
    split at h <;> cases h
    exact good_sv (good_fSame _ _ _ _) ⟨⟨_, rfl, hp.1.sv, rfl, trivial⟩, ⟨_, rfl, hp.2.sv, rfl, trivial⟩, trivial⟩
  · intro args p r h hp
    unfold c_rfFeed at h
    split at h <;> cases h
    exact good_sv (good_rfFeed _ _ _ (by rw [lstOf_length hp.1.1]; exact hp.2.1) (by rw [lstOf_length hp.1.2]; exact hp.2.2)) ⟨⟨_, rfl, hp.1.1.sv, rfl, trivial⟩, hp.1.2.sv, trivial⟩
  · intro args p r h hp
    unfold c_fFeed at h
    split at h <;> cases h
    exact good_sv (good_fFeed _ _ _ (by rw [lstOf_length hp.1.1]; exact hp.2.1) (by rw [lstOf_length hp.1.2]; exact hp.2.2)) ⟨⟨_, rfl, hp.1.1.sv, rfl, trivial⟩, hp.1.2.sv, trivial⟩
  · intro args p r h hp
    unfold c_rfPut at h
    split at h <;> cases h
    exact good_sv (good_rfPut _ (by rw [lstOf_length hp.1]; exact hp.2)) ⟨hp.1.sv, trivial⟩
  · intro args p r h hp
    unfold c_fPut at h
    split at h <;> cases h
    exact good_sv (good_fPut _ (by rw [lstOf_length hp.1]; exact hp.2)) ⟨hp.1.sv, trivial⟩
theorem feed1 : fFeed [] false [0, 1, 65, 0] = ⟨[0], false, [[65]], 0⟩ := by
  rw [fFeed_go (by decide), List.nil_append, fParse_more (by decide) (by decide) (by decide), fParse_short (by decide)]
  rfl
theorem feed2 : fFeed [0] false [0] = ⟨[], true, [], 12⟩ := by
  rw [fFeed_go (by decide), fParse_bad (by decide) (by decide)]
  rfl
theorem put1 : fPutR [65] = [0, 1, 65] := by decide
theorem put2 : fPutE [65] = 0 := by decide
theorem put3 : fPutE [] = 2 := by decide
theorem l65 : lstOf eB 0 1 1 (lstS [[SV.int IntKind.u8 65]]) = [65] := lstOf_eq inj_eB (Reps.one (cell_eB rfl))
theorem l0 : lstOf eB 0 1 1 (lstS [[SV.int IntKind.u8 0]]) = [0] := lstOf_eq inj_eB (Reps.one (cell_eB rfl))
theorem r65 : isRow eB 0 1 1 (lstS [[SV.int IntKind.u8 65]]) := ⟨[65], Reps.one (cell_eB rfl)⟩
theorem r0 : isRow eB 0 1 1 (lstS [[SV.int IntKind.u8 0]]) := ⟨[0], Reps.one (cell_eB rfl)⟩
theorem qc : Reps eB 0 1 (0 + [(0 : UInt8), 1, 65].length + 1) (catS (0 + [(0 : UInt8), 1, 65].length) (catS 0 (fun x x_1 => SV.any) (rowF eB 0 std fun _ => [0, 1, 65])) (lstS [[SV.int IntKind.u8 0]])) [0, 1, 65, 0] :=
  (Reps.nil.cat (Reps.lit [0, 1, 65])).cat (Reps.one (x := 0) (cell_eB rfl))
theorem lc : lstOf eB 0 1 (0 + [(0 : UInt8), 1, 65].length + 1) (catS (0 + [(0 : UInt8), 1, 65].length) (catS 0 (fun x x_1 => SV.any) (rowF eB 0 std fun _ => [0, 1, 65])) (lstS [[SV.int IntKind.u8 0]])) = [0, 1, 65, 0] := lstOf_eq inj_eB qc
theorem rc : isRow eB 0 1 (0 + [(0 : UInt8), 1, 65].length + 1) (catS (0 + [(0 : UInt8), 1, 65].length) (catS 0 (fun x x_1 => SV.any) (rowF eB 0 std fun _ => [0, 1, 65])) (lstS [[SV.int IntKind.u8 0]])) := ⟨_, qc⟩
noncomputable def gf5 : Ar → Pu := gf4
theorem gf5_ok : PuOk Tryz.prog gl0 (gf5 std) := by
  refine gf4_ok
theorem pe0 {B : List UInt8} (h : B = []) : fPutE B = 2 ∧ fPutR B = [] := by subst h; exact ⟨rfl, rfl⟩
theorem pe1 {B : List UInt8} (h : 2048 < B.length) : fPutE B = 4 ∧ fPutR B = [] := by
  unfold fPutE fPutR
  rw [if_neg (by omega), if_pos h, if_neg (by omega), if_pos h]
  exact ⟨rfl, rfl⟩
theorem pe2 {B : List UInt8} (h0 : ¬B = []) (h : ¬2048 < B.length) : fPutE B = 0 ∧ fPutR B = fPutL B := by
  have : ¬B.length = 0 := fun e => h0 (List.length_eq_zero_iff.1 e)
  unfold fPutE fPutR
  rw [if_neg this, if_neg h, if_neg this, if_neg h]
  exact ⟨rfl, rfl⟩
theorem fParse_told (n : Nat) : ∀ L : List UInt8, L.length = n → (fParse L).1.length ≤ L.length := by
  induction n using Nat.strongRecOn with
  | _ n ih =>
    intro L hL
    by_cases h0 : L.length < 2
    · rw [fParse_short h0]; simp
    · cases h1 : fMay (fLen L) with
      | false => rw [fParse_bad h0 h1]; simp
      | true =>
        by_cases h2 : L.length < 2 + fLen L
        · rw [fParse_part h0 h1 h2]; simp
        · rw [fParse_more h0 h1 h2]
          have h := ih (L.drop (2 + fLen L)).length (by rw [List.length_drop]; omega) _ rfl
          rw [List.length_drop] at h
          simp only [List.length_cons]
          omega
theorem fFeed_told {L B : List UInt8} {br : Bool} : (fFeed L br B).told.length ≤ L.length + B.length := by
  cases h : fOk L br
  · rw [fFeed_bad h]; simp
  · cases br
    · rw [fFeed_go h]
      have := fParse_told _ (L ++ B) rfl
      rw [List.length_append] at this
      exact this
    · rw [fFeed_br h]; simp
theorem fFeed_rest {L B : List UInt8} {br : Bool} : (fFeed L br B).rest.length ≤ L.length + B.length := by
  cases h : fOk L br
  · rw [fFeed_bad h]; simp
  · cases br
    · rw [fFeed_go h]
      have := (fParse_ok _ (L ++ B) rfl).2
      rw [List.length_append] at this
      exact this
    · rw [fFeed_br h]; simp
end Go.Vd

set_option linter.unusedVariables false
set_option linter.unusedSimpArgs false
namespace Go.Vd
theorem fOk_len {R : List UInt8} {br : Bool} (h : fOk R br = true) : R.length ≤ 2049 := by
  unfold fOk at h
  cases br
  · rw [if_neg (by simp)] at h
    split at h
    · omega
    · simp only [Bool.and_eq_true, decide_eq_true_eq] at h
      have := fMay_iff.1 h.1
      omega
  · simp at h
    subst h
    simp
/-- One byte tells at most one frame. -/
theorem byte_one {R : List UInt8} {x : UInt8} (h : fOk R false = true) :
    fFeed R false [x] = ⟨[], true, [], 12⟩ ∨ (∃ S, fFeed R false [x] = ⟨S, false, [], 0⟩ ∧ fOk S false = true) ∨ (∃ S t, fFeed R false [x] = ⟨S, false, [t], 0⟩ ∧ fOk S false = true) := by
  rw [fFeed_go h]
  by_cases h2 : (R ++ [x]).length < 2
  · have := fStep_short h2
    rw [fParse_fix this]
    exact .inr (.inl ⟨_, rfl, this⟩)
  · cases h1 : fMay (fLen (R ++ [x])) with
    | false =>
      rw [fParse_bad h2 h1]
      exact .inl rfl
    | true =>
      by_cases h3 : (R ++ [x]).length = 2 + fLen (R ++ [x])
      · have := fParse_full (T := []) h2 h1 h3
        rw [List.append_nil] at this
        rw [this, fParse_short (by simp)]
        exact .inr (.inr ⟨_, _, rfl, (show fOk [] false = true from by decide)⟩)
      · have := fStep_part h h2 h1 h3
        rw [fParse_fix this]
        exact .inr (.inl ⟨_, rfl, this⟩)
structure NNx where
  rest : List UInt8
  br : Bool
  left : List UInt8
  fr : List UInt8
  e : Int
def nGo : List UInt8 → List UInt8 → NNx
  | R, [] => ⟨R, false, [], [], 5⟩
  | R, x :: B => if (fFeed R false [x]).e = 0 then (if (fFeed R false [x]).told = [] then nGo (fFeed R false [x]).rest B else ⟨(fFeed R false [x]).rest, (fFeed R false [x]).br, B, (fFeed R false [x]).told.getD 0 [], 0⟩) else ⟨(fFeed R false [x]).rest, (fFeed R false [x]).br, [], [], (fFeed R false [x]).e⟩
def nNx (R : List UInt8) (br : Bool) (B : List UInt8) : NNx := if fOk R br = false then ⟨R, br, B, [], 1⟩ else if br = true then ⟨R, true, B, [], 12⟩ else nGo R B
theorem nNx_bad {R B : List UInt8} {br : Bool} (h : fOk R br = false) : nNx R br B = ⟨R, br, B, [], 1⟩ := if_pos h
theorem nNx_br {R B : List UInt8} (h : fOk R true = true) : nNx R true B = ⟨R, true, B, [], 12⟩ := by simp [nNx, h]
theorem nNx_go {R B : List UInt8} (h : fOk R false = true) : nNx R false B = nGo R B := by simp [nNx, h]
theorem nGo_nil (R : List UInt8) : nGo R [] = ⟨R, false, [], [], 5⟩ := by simp [nGo]
theorem nGo_err {R B : List UInt8} {x : UInt8} (h : ¬(fFeed R false [x]).e = 0) : nGo R (x :: B) = ⟨(fFeed R false [x]).rest, (fFeed R false [x]).br, [], [], (fFeed R false [x]).e⟩ := by
  rw [nGo, if_neg h]
theorem nGo_told {R B : List UInt8} {x : UInt8} (h : (fFeed R false [x]).e = 0) (h1 : ¬(fFeed R false [x]).told = []) : nGo R (x :: B) = ⟨(fFeed R false [x]).rest, (fFeed R false [x]).br, B, (fFeed R false [x]).told.getD 0 [], 0⟩ := by
  rw [nGo, if_pos h, if_neg h1]
theorem nGo_on {R B : List UInt8} {x : UInt8} (h : (fFeed R false [x]).e = 0) (h1 : (fFeed R false [x]).told = []) : nGo R (x :: B) = nGo (fFeed R false [x]).rest B := by
  rw [nGo, if_pos h, if_pos h1]
theorem byte_br {R : List UInt8} {x : UInt8} (h : fOk R false = true) (h0 : (fFeed R false [x]).e = 0) : (fFeed R false [x]).br = false ∧ fOk (fFeed R false [x]).rest false = true := by
  rcases byte_one (x := x) h with e | ⟨S, e, hS⟩ | ⟨S, t, e, hS⟩
  · rw [e] at h0; cases h0
  · rw [e]; exact ⟨rfl, hS⟩
  · rw [e]; exact ⟨rfl, hS⟩
/-- What the next frame is of all that a line tells at once. -/
theorem nGo_all : ∀ (B R : List UInt8), fOk R false = true →
    ((nGo R B).e = 5 ∧ (nGo R B).br = false ∧ fOk (nGo R B).rest false = true ∧ (nGo R B).left = [] ∧ (nGo R B).fr = [] ∧ fFeed R false B = ⟨(nGo R B).rest, false, [], 0⟩) ∨
    ((nGo R B).e = 12 ∧ (nGo R B).br = true ∧ (nGo R B).rest = [] ∧ (nGo R B).left = [] ∧ (nGo R B).fr = [] ∧ fFeed R false B = ⟨[], true, [], 12⟩) ∨
    ((nGo R B).e = 0 ∧ (nGo R B).br = false ∧ fOk (nGo R B).rest false = true ∧ (nGo R B).left.length < B.length ∧ ∃ C, B = C ++ (nGo R B).left ∧ fFeed R false C = ⟨(nGo R B).rest, false, [(nGo R B).fr], 0⟩)
  | [], R, h => .inl ⟨rfl, rfl, by rw [nGo_nil]; exact h, rfl, rfl, by rw [fFeed_go h, List.append_nil, fParse_fix h]; rfl⟩
  | x :: B, R, h => by
    rcases byte_one (x := x) h with e | ⟨S, e, hS⟩ | ⟨S, t, e, hS⟩
    · have g := nGo_err (B := B) (R := R) (x := x) (by rw [e]; decide)
      rw [e] at g
      rw [g]
      refine .inr (.inl ⟨rfl, rfl, rfl, rfl, rfl, ?_⟩)
      have := fFeed_two (A := [x]) (B := B) h
      rw [e] at this
      dsimp only at this
      rw [fFeed_br (by decide)] at this
      exact this
    · have g := nGo_on (B := B) (R := R) (x := x) (by rw [e]) (by rw [e])
      rw [e] at g
      dsimp only at g
      have two := fun C => fFeed_two (A := [x]) (B := C) h
      rw [e] at two
      dsimp only [List.nil_append] at two
      rw [g]
      rcases nGo_all B S hS with ⟨a1, a2, a3, a4, a5, a6⟩ | ⟨a1, a2, a3, a4, a5, a6⟩ | ⟨a1, a2, a3, a4, C, a5, a6⟩
      · exact .inl ⟨a1, a2, a3, a4, a5, (two B).trans (by rw [a6])⟩
      · exact .inr (.inl ⟨a1, a2, a3, a4, a5, (two B).trans (by rw [a6])⟩)
      · exact .inr (.inr ⟨a1, a2, a3, by rw [List.length_cons]; omega, x :: C, by rw [List.cons_append, ← a5], (two C).trans (by rw [a6])⟩)
    · have g := nGo_told (B := B) (R := R) (x := x) (by rw [e]) (by rw [e]; simp)
      rw [e] at g
      rw [g]
      exact .inr (.inr ⟨rfl, rfl, hS, by simp, [x], rfl, e⟩)
theorem nGo_rest : ∀ (B R : List UInt8), fOk R false = true → (nGo R B).left.length ≤ B.length := fun B R h => by
  rcases nGo_all B R h with ⟨a1, a2, a3, a4, a5, a6⟩ | ⟨a1, a2, a3, a4, a5, a6⟩ | ⟨a1, a2, a3, a4, C, a5, a6⟩
  · rw [a4]; simp
  · rw [a4]; simp
  · omega
/-- What is still to be told. -/
def toGo (R B X : List UInt8) (G : List (List UInt8)) : FFed := ⟨(fFeed R false (B ++ X)).rest, (fFeed R false (B ++ X)).br, G ++ (fFeed R false (B ++ X)).told, (fFeed R false (B ++ X)).e⟩
theorem toGo_none {R B X : List UInt8} {G : List (List UInt8)} (h : fOk R false = true) (he : (nGo R B).e = 5) : toGo R B X G = toGo (nGo R B).rest [] X G := by
  rcases nGo_all B R h with ⟨a1, a2, a3, a4, a5, a6⟩ | ⟨a1, a2, a3, a4, a5, a6⟩ | ⟨a1, a2, a3, a4, C, a5, a6⟩
  · have two := fFeed_two (A := B) (B := X) h
    rw [a6] at two
    unfold toGo
    rw [two, List.nil_append]
    simp
  · rw [a1] at he; cases he
  · rw [a1] at he; cases he
theorem toGo_end {R B : List UInt8} {G : List (List UInt8)} (h : fOk R false = true) (he : (nGo R B).e = 5) : toGo R B [] G = ⟨(nGo R B).rest, false, G, 0⟩ ∧ (nGo R B).br = false := by
  rcases nGo_all B R h with ⟨a1, a2, a3, a4, a5, a6⟩ | ⟨a1, a2, a3, a4, a5, a6⟩ | ⟨a1, a2, a3, a4, C, a5, a6⟩
  · unfold toGo
    rw [List.append_nil, a6]
    simp [a2]
  · rw [a1] at he; cases he
  · rw [a1] at he; cases he
theorem toGo_broken {R B X : List UInt8} {G : List (List UInt8)} (h : fOk R false = true) (he : (nGo R B).e = 12) : toGo R B X G = ⟨[], true, G, 12⟩ ∧ (nGo R B).rest = [] ∧ (nGo R B).br = true := by
  rcases nGo_all B R h with ⟨a1, a2, a3, a4, a5, a6⟩ | ⟨a1, a2, a3, a4, a5, a6⟩ | ⟨a1, a2, a3, a4, C, a5, a6⟩
  · rw [a1] at he; cases he
  · have two := fFeed_two (A := B) (B := X) h
    rw [a6] at two
    dsimp only at two
    rw [fFeed_br (by decide)] at two
    unfold toGo
    rw [two]
    simp [a2, a3]
  · rw [a1] at he; cases he
theorem toGo_told {R B X : List UInt8} {G : List (List UInt8)} (h : fOk R false = true) (he : (nGo R B).e = 0) :
    toGo R B X G = toGo (nGo R B).rest (nGo R B).left X (G ++ [(nGo R B).fr]) ∧ (nGo R B).br = false ∧ fOk (nGo R B).rest false = true ∧ (nGo R B).left.length < B.length := by
  rcases nGo_all B R h with ⟨a1, a2, a3, a4, a5, a6⟩ | ⟨a1, a2, a3, a4, a5, a6⟩ | ⟨a1, a2, a3, a4, C, a5, a6⟩
  · rw [a1] at he; cases he
  · rw [a1] at he; cases he
  · refine ⟨?_, a2, a3, a4⟩
    have two := fFeed_two (A := C) (B := (nGo R B).left ++ X) h
    rw [a6, ← List.append_assoc, ← a5] at two
    unfold toGo
    rw [two]
    simp
theorem nGo_e {R B : List UInt8} (h : fOk R false = true) : (nGo R B).e = 0 ∨ (nGo R B).e = 5 ∨ (nGo R B).e = 12 := by
  rcases nGo_all B R h with ⟨a1, _⟩ | ⟨a1, _⟩ | ⟨a1, _⟩
  · exact .inr (.inl a1)
  · exact .inr (.inr a1)
  · exact .inl a1
theorem nGo_none {R B : List UInt8} (h : fOk R false = true) (he : (nGo R B).e = 5) : (nGo R B).br = false ∧ fOk (nGo R B).rest false = true ∧ (nGo R B).left = [] ∧ (nGo R B).fr = [] := by
  rcases nGo_all B R h with ⟨a1, a2, a3, a4, a5, a6⟩ | ⟨a1, a2, a3, a4, a5, a6⟩ | ⟨a1, a2, a3, a4, C, a5, a6⟩
  · exact ⟨a2, a3, a4, a5⟩
  · rw [a1] at he; cases he
  · rw [a1] at he; cases he
end Go.Vd

set_option linter.unusedVariables false
set_option linter.unusedSimpArgs false
set_option maxRecDepth 100000
set_option maxHeartbeats 8000000
namespace Go.Vd
open Go.Proofs
def aNx (A : Ar) (R : List UInt8) (br : Bool) (B : List UInt8) : SV := .tup [sR A (fun _ => (nNx R br B).rest) (A.tb fun _ => (nNx R br B).br), rowS eB 0 1 A fun _ => (nNx R br B).left, rowS eB 0 1 A fun _ => (nNx R br B).fr, .int .i64 (A.ti fun _ => (nNx R br B).e)]
def aNxT (A : Ar) (R : Unit → List UInt8) (br : Bool) (B : Unit → List UInt8) : SV := .tup [sR A (fun _ => (nNx (R ()) br (B ())).rest) (A.tb fun _ => (nNx (R ()) br (B ())).br), rowS eB 0 1 A fun _ => (nNx (R ()) br (B ())).left, rowS eB 0 1 A fun _ => (nNx (R ()) br (B ())).fr, .int .i64 (A.ti fun _ => (nNx (R ()) br (B ())).e)]
theorem one_cut (B : List UInt8) {i : Nat} (h : i < B.length) : Reps eB 0 1 1 (fun k => rowF eB 0 std (fun _ => B) (i + k)) [B.getD i 0] := by
  have h1 := (Reps.shift' (Reps.lit (enc := eB) (d := 0) (k := 1) B) i (by omega)).take 1 (by omega)
  refine h1.congr rfl ?_
  rw [fdrop_cons h]; rfl
theorem one_lst (B : List UInt8) {i : Nat} (h : i < B.length) : lstOf eB 0 1 1 (fun k => rowF eB 0 std (fun _ => B) (i + k)) = [B.getD i 0] := lstOf_eq inj_eB (one_cut B h)
theorem one_row (B : List UInt8) {i : Nat} (h : i < B.length) : isRow eB 0 1 1 (fun k => rowF eB 0 std (fun _ => B) (i + k)) := ⟨_, one_cut B h⟩
theorem ng_cons {R B : List UInt8} {i : Nat} (h : i < B.length) : nGo R (B.drop i) = nGo R (B.getD i 0 :: B.drop (i + 1)) := by rw [fdrop_cons h]
theorem good_lNext (br : Bool) (R B : List UInt8) (hR : R.length ≤ 10000) (hB : B.length ≤ 10000) : GoodP Tryz.prog gl0 12 [sR std (fun _ => R) br, rowS eB 0 1 std fun _ => B] (aNx std R br B) := by
  refine fn_sound' (T := seatT) (G := gf4) (X := noX) seatT_ok gf4_ok noX_ok noI_ok mixed Tryz.func12 (.none) (fun A => [sR A (fun _ => R) br, rowS eB 0 1 A fun _ => B]) (fun A => aNx A R br B) fun A hA => ?_
  cbv
  repeat' (first | with_reducible exact True.intro | with_reducible exact dr_ok hA (by kernel_rfl) | with_reducible refine And.intro ?_ ?_ | (intro hc; cbv))
  all_goals first
    | (fail_if_success (refine Exists.intro ?_ ?_)
       subst hA; simp [-List.getD_eq_getElem?_getD, sS, strOf_lit, lstOf_lit inj_eB, lstOf_lit inj_eZ, lstOf_lit inj_eBs, lstOf_lit inj_eS, isRow_lit, isB_lit, isRow_nil, lstOf_nil inj_eB, lstOf_nil inj_eZ, lstOf_nil inj_eBs, lstOf_nil inj_eS] at *
       first
         | omega
         | (rw [nNx_bad (by assumption)]; first | done | rfl | exact (Reps.lit _).eqr)
         | (have hb : br = true := by assumption
            subst hb
            rw [nNx_br (by assumption)]; first | done | rfl | exact (Reps.lit _).eqr)
         | trace_state)
    | skip
  rename_i hf0
  have hok : fOk R false = true := by subst hA; subst hc; simpa [sS, strOf_lit, lstOf_lit inj_eB, lstOf_lit inj_eZ, lstOf_lit inj_eBs, lstOf_lit inj_eS] using hf0
  subst hc
  clear hf0
  refine ⟨⟨{p : Nat × List UInt8 // p.1 ≤ B.length ∧ fOk p.2 false = true ∧ nGo p.2 (B.drop p.1) = nGo R B}, fun b p => [(8, .int .i64 (p.1.1 : Nat))], fun b p => [(0, .box 24 [rowS eB 0 1 A fun _ => p.1.2, .bool false])], fun p => B.length - p.1.1, true⟩, ⟨⟨(0, R), by omega, hok, rfl⟩, ?_⟩, ?_⟩
  · cbv
    subst hA
    simp [-List.getD_eq_getElem?_getD, sS, strOf_lit, lstOf_lit inj_eB, lstOf_lit inj_eZ, lstOf_lit inj_eBs, lstOf_lit inj_eS, isRow_lit, isB_lit, isRow_nil, lstOf_nil inj_eB, lstOf_nil inj_eZ, lstOf_nil inj_eBs, lstOf_nil inj_eS]
  · rintro ⟨⟨i, S⟩, hi, hS, hG⟩
    simp only at hi hS hG
    have hlen := fOk_len hS
    have hN := nNx_go (B := B) hok
    rcases Nat.lt_or_ge i B.length with hlt | hge
    · have hw1 : IntKind.i64.wrap ((i : Int) + 1) = (i : Int) + 1 := w64 (by omega)
      have hb1 : 0 ≤ IntKind.i64.wrap ((i : Int) + 1) ∧ IntKind.i64.wrap ((i : Int) + 1) < (B.length : Int) + 1 := by rw [hw1]; constructor <;> omega
      have hwn : (IntKind.i64.wrap ((i : Int) + 1)).toNat = i + 1 := by rw [hw1]; omega
      have hr2 := Reps.shift' (Reps.lit (enc := eB) (d := 0) (k := 1) B) (i + 1) (by omega)
      have h3 := lstOf_eq inj_eB hr2
      have h4 : isRow eB 0 1 (B.length - (i + 1)) (fun k => rowF eB 0 std (fun _ => B) (i + 1 + k)) := ⟨_, hr2⟩
      have h1 := one_lst B hlt
      have h2 := one_row B hlt
      have hx := ng_cons (R := S) hlt
      rw [hx] at hG
      cbv
      repeat' (first | with_reducible exact True.intro | with_reducible exact dr_ok hA (by kernel_rfl) | with_reducible refine And.intro ?_ ?_ | (intro hc; cbv))
      all_goals first
        | (fail_if_success (refine Exists.intro ?_ ?_)
           subst hA
           simp [-List.getD_eq_getElem?_getD, sS, strOf_lit, lstOf_lit inj_eB, lstOf_lit inj_eZ, lstOf_lit inj_eBs, lstOf_lit inj_eS, isRow_lit, isB_lit, isRow_nil, lstOf_nil inj_eB, lstOf_nil inj_eZ, lstOf_nil inj_eBs, lstOf_nil inj_eS, hwn, h1, h2, h3, h4] at *
           first
             | omega
             | (have he : ¬(fFeed S false [B.getD i 0]).e = 0 := by assumption
                rw [hN, ← hG, nGo_err he]; first | done | rfl | exact (Reps.lit _).eqr)
             | (have he : (fFeed S false [B.getD i 0]).e = 0 := by assumption
                have ht : ¬(fFeed S false [B.getD i 0]).told = [] := fun e => absurd hc (by rw [e]; exact Nat.lt_irrefl 0)
                rw [hN, ← hG, nGo_told he ht]; first | done | rfl | exact (Reps.lit _).eqr)
             | exact hb1
             | exact ⟨hb1.1, hb1.2⟩
             | (have he : (fFeed S false [B.getD i 0]).e = 0 := by assumption
                have ht : ¬(fFeed S false [B.getD i 0]).told = [] := fun e => absurd hc (by rw [e]; exact Nat.lt_irrefl 0)
                rw [hN, ← hG, nGo_told he ht, List.length_drop])
             | trace_state)
        | (have he : (fFeed S false [B.getD i 0]).e = 0 := by (clear hN hG hx; subst hA; simp [-List.getD_eq_getElem?_getD, sS, strOf_lit, lstOf_lit inj_eB, lstOf_lit inj_eZ, lstOf_lit inj_eBs, lstOf_lit inj_eS, isRow_lit, isB_lit, isRow_nil, lstOf_nil inj_eB, lstOf_nil inj_eZ, lstOf_nil inj_eBs, lstOf_nil inj_eS, hwn, h1, h2, h3, h4] at *; assumption)
           have ht : (fFeed S false [B.getD i 0]).told = [] := by (clear hN hG hx; subst hA; simp [-List.getD_eq_getElem?_getD, sS, strOf_lit, lstOf_lit inj_eB, lstOf_lit inj_eZ, lstOf_lit inj_eBs, lstOf_lit inj_eS, isRow_lit, isB_lit, isRow_nil, lstOf_nil inj_eB, lstOf_nil inj_eZ, lstOf_nil inj_eBs, lstOf_nil inj_eS, hwn, h1, h2, h3, h4] at *; (first | assumption | exact List.length_eq_zero_iff.1 (by omega) | trace_state))
           have hb := byte_br hS he
           have hg := nGo_on (B := B.drop (i + 1)) he ht
           rw [hG] at hg
           obtain ⟨i', hi'⟩ : ∃ i', i' = i + 1 := ⟨_, rfl⟩
           obtain ⟨S', hS'⟩ : ∃ S', S' = (fFeed S false [B.getD i 0]).rest := ⟨_, rfl⟩
           refine ⟨⟨(i', S'), by omega, by rw [hS']; exact hb.2, by rw [hS', hi']; exact hg.symm⟩, ?_, show B.length - i' < B.length - i by omega⟩
           cbv
           subst hA
           simp [-List.getD_eq_getElem?_getD, sS, strOf_lit, lstOf_lit inj_eB, lstOf_lit inj_eZ, lstOf_lit inj_eBs, lstOf_lit inj_eS, isRow_lit, isB_lit, isRow_nil, lstOf_nil inj_eB, lstOf_nil inj_eZ, lstOf_nil inj_eBs, lstOf_nil inj_eS, hwn, h1, h2, h3, h4]
           exact ⟨hw1.trans (by omega), ⟨by rw [hS'], by rw [hS']; exact (Reps.lit _).eqr⟩, hb.1⟩)
    · have hie : i = B.length := by omega
      have hin : ¬i < B.length := by omega
      rw [hie, List.drop_length, nGo_nil] at hG
      cbv
      repeat' (first | with_reducible exact True.intro | with_reducible exact dr_ok hA (by kernel_rfl) | with_reducible refine And.intro ?_ ?_ | (intro hc; cbv))
      all_goals first
        | (subst hA
           simp [-List.getD_eq_getElem?_getD, sS, strOf_lit, lstOf_lit inj_eB, lstOf_lit inj_eZ, lstOf_lit inj_eBs, lstOf_lit inj_eS, isRow_lit, isB_lit, isRow_nil, lstOf_nil inj_eB, lstOf_nil inj_eZ, lstOf_nil inj_eBs, lstOf_nil inj_eS] at *
           first
             | omega
             | exact absurd (by omega) hc
             | exact absurd (congrArg Nat.cast hie) (by assumption)
             | (rw [hN, ← hG]; first | done | rfl | exact (Reps.lit _).eqr)
             | trace_state)
        | trace_state
noncomputable def c_lNext : Ct := fun A args => match args with
  | [.agg [.slc n 1 f, .bool br], .slc m 1 g] => some (some (A.tp fun _ => (isRow eB 0 1 n f ∧ isRow eB 0 1 m g) ∧ n ≤ 10000 ∧ m ≤ 10000), aNxT A (fun _ => lstOf eB 0 1 n f) br (fun _ => lstOf eB 0 1 m g))
  | _ => none
noncomputable def gP4 : Ar → Pu := addC 12 c_lNext (gf4)
theorem gP4_ok : PuOk Tryz.prog gl0 (gP4 std) := by
  refine addC_ok (gf4_ok) ⟨_, Tryz.func12, rfl, by decide⟩ ?_
  · intro args p r h hp
    unfold c_lNext at h
    split at h <;> cases h
    exact good_sv (good_lNext _ _ _ (by rw [lstOf_length hp.1.1]; exact hp.2.1) (by rw [lstOf_length hp.1.2]; exact hp.2.2)) ⟨⟨_, rfl, hp.1.1.sv, rfl, trivial⟩, hp.1.2.sv, trivial⟩
end Go.Vd

set_option linter.unusedVariables false
set_option linter.unusedSimpArgs false
set_option maxRecDepth 100000
set_option maxHeartbeats 4000000
namespace Go.Vd
open Go.Proofs
def sKey (A : Ar) (s : Int) (r : List UInt8) : SV := .agg [.int .u32 s, .str r]
noncomputable def gk1 : Ar → Pu := gm3
theorem gk1_ok : PuOk Tryz.prog gl0 (gk1 std) := by
  refine gm3_ok
def orInts (A : Ar) (L : Unit → List Int) : SV := rowS eZ 0 1 A L
noncomputable def gk2 : Ar → Pu := gk1
theorem gk2_ok : PuOk Tryz.prog gl0 (gk2 std) := by
  refine gk1_ok
theorem q2 (x y : Int) : Reps eZ 0 1 2 (lstS [[SV.int .i64 x], [SV.int .i64 y]]) [x, y] := Reps.lst (l := [_, _]) (L := [x, y]) ⟨cell_eZ x, cell_eZ y, trivial⟩
theorem good_kOf (a c s : Int) (p r e : List UInt8) : GoodP Tryz.prog gl0 39 [.agg [.int .i64 a, .str p, .int .u64 c, .int .u32 s, .str r, .str e]] (sKey std s r) := by
  refine fn_sound' (T := seatT) (G := noC) (X := noX) seatT_ok noC_ok noX_ok noI_ok mixed Tryz.func39 (.one) (fun A => [.agg [.int .i64 a, .str p, .int .u64 c, .int .u32 s, .str r, .str e]]) (fun A => sKey A s r) fun A hA => ?_
  cbv
  repeat' (first | with_reducible exact True.intro | with_reducible exact dr_ok hA (by kernel_rfl) | with_reducible refine And.intro ?_ ?_ | (intro hc; cbv))
  all_goals (subst hA; simp [std_add, std_sub, std_mul, std_quo, std_rem, std_band, std_bor, std_bxor, std_shl, std_shr, std_eq, std_ne, std_lt, std_le, std_conv, std_not, std_beq, std_bne, std_ite, std_want, std_and2, std_sadd, std_seq, std_sne, std_slt, std_sle, std_sgt, std_sge, std_slen, std_sget, std_scut, std_ofNat, std_toNat, std_nsub, std_nadd, std_lenOf, std_nz, std_nneg, std_inb, std_upto, std_slt63, std_grow, std_imp, std_impN, std_tr, std_tb, std_ti, std_ts, std_tn, std_tp, std_nmin, std_makes, std_room, std_zeros, std_nilq, std_notq, std_eqi, std_eqn, std_eqb, std_eqs, std_eqv, std_cat, std_lst, std_rset, std_rcopy, std_shift, std_eqr, std_strOf, std_bytesOf, std_isB, std_zOf, zOf_int, std_isI, isI_int, std_getL, std_nmul, std_sOf, sOf_str, std_isS, isS_str] at *)
theorem good_dShort (a c s : Int) (p r e : List UInt8) : GoodP Tryz.prog gl0 18 [.agg [.int .i64 a, .str p, .int .u64 c, .int .u32 s, .str r, .str e]] (.bool (std.tb fun _ => decide (p.length ≤ 300 ∧ r.length ≤ 300 ∧ e.length ≤ 300))) := by
  refine fn_sound' (T := seatT) (G := noC) (X := noX) seatT_ok noC_ok noX_ok noI_ok mixed Tryz.func18 (.one) (fun A => [.agg [.int .i64 a, .str p, .int .u64 c, .int .u32 s, .str r, .str e]]) (fun A => .bool (A.tb fun _ => decide (p.length ≤ 300 ∧ r.length ≤ 300 ∧ e.length ≤ 300))) fun A hA => ?_
  cbv
  repeat' (first | with_reducible exact True.intro | with_reducible exact dr_ok hA (by kernel_rfl) | with_reducible refine And.intro ?_ ?_ | (intro hc; cbv))
  all_goals (subst hA; simp [std_add, std_sub, std_mul, std_quo, std_rem, std_band, std_bor, std_bxor, std_shl, std_shr, std_eq, std_ne, std_lt, std_le, std_conv, std_not, std_beq, std_bne, std_ite, std_want, std_and2, std_sadd, std_seq, std_sne, std_slt, std_sle, std_sgt, std_sge, std_slen, std_sget, std_scut, std_ofNat, std_toNat, std_nsub, std_nadd, std_lenOf, std_nz, std_nneg, std_inb, std_upto, std_slt63, std_grow, std_imp, std_impN, std_tr, std_tb, std_ti, std_ts, std_tn, std_tp, std_nmin, std_makes, std_room, std_zeros, std_nilq, std_notq, std_eqi, std_eqn, std_eqb, std_eqs, std_eqv, std_cat, std_lst, std_rset, std_rcopy, std_shift, std_eqr, std_strOf, std_bytesOf, std_isB, std_zOf, zOf_int, std_isI, isI_int, std_getL, std_nmul, std_sOf, sOf_str, std_isS, isS_str] at *)
  all_goals first
    | (rw [Bool.eq_iff_iff]; simp; omega)
    | (intro _ _; constructor <;> assumption)
    | trace_state
theorem good_kRight (s : Int) (r : List UInt8) : GoodP Tryz.prog gl0 62 [sKey std s r] (.bool (std.tb fun _ => keyOk s r)) := by
  refine fn_sound' (T := seatT) (G := noC) (X := noX) seatT_ok noC_ok noX_ok noI_ok mixed Tryz.func62 (.one) (fun A => [sKey A s r]) (fun A => .bool (A.tb fun _ => keyOk s r)) fun A hA => ?_
  cbv
  repeat' (first | with_reducible exact True.intro | with_reducible exact dr_ok hA (by kernel_rfl) | with_reducible refine And.intro ?_ ?_ | (intro hc; cbv))
  rotate_right
  · have h0 : s ≤ 999999 ∧ r.length = 12 := by subst hA; simp [std_add, std_sub, std_mul, std_quo, std_rem, std_band, std_bor, std_bxor, std_shl, std_shr, std_eq, std_ne, std_lt, std_le, std_conv, std_not, std_beq, std_bne, std_ite, std_want, std_and2, std_sadd, std_seq, std_sne, std_slt, std_sle, std_sgt, std_sge, std_slen, std_sget, std_scut, std_ofNat, std_toNat, std_nsub, std_nadd, std_lenOf, std_nz, std_nneg, std_inb, std_upto, std_slt63, std_grow, std_imp, std_impN, std_tr, std_tb, std_ti, std_ts, std_tn, std_tp, std_nmin, std_makes, std_room, std_zeros, std_nilq, std_notq, std_eqi, std_eqn, std_eqb, std_eqs, std_eqv, std_cat, std_lst, std_rset, std_rcopy, std_shift, std_eqr, std_strOf, std_bytesOf, std_isB, std_zOf, zOf_int, std_isI, isI_int, std_getL, std_nmul, std_sOf, sOf_str, std_isS, isS_str] at *; omega
    refine ⟨⟨{i : Nat // i ≤ r.length ∧ (r.take i).all okB = true}, fun b i => [(16, .int .i64 (i.1 : Nat))], fun b i => [], fun i => r.length - i.1, true⟩, ⟨⟨0, by omega, by simp⟩, ?_⟩, ?_⟩
    · cbv
      subst hA
      simp [-List.getD_eq_getElem?_getD, std_add, std_sub, std_mul, std_quo, std_rem, std_band, std_bor, std_bxor, std_shl, std_shr, std_eq, std_ne, std_lt, std_le, std_conv, std_not, std_beq, std_bne, std_ite, std_want, std_and2, std_sadd, std_seq, std_sne, std_slt, std_sle, std_sgt, std_sge, std_slen, std_sget, std_scut, std_ofNat, std_toNat, std_nsub, std_nadd, std_lenOf, std_nz, std_nneg, std_inb, std_upto, std_slt63, std_grow, std_imp, std_impN, std_tr, std_tb, std_ti, std_ts, std_tn, std_tp, std_nmin, std_makes, std_room, std_zeros, std_nilq, std_notq, std_eqi, std_eqn, std_eqb, std_eqs, std_eqv, std_cat, std_lst, std_rset, std_rcopy, std_shift, std_eqr, std_strOf, std_bytesOf, std_isB, std_zOf, zOf_int, std_isI, isI_int, std_getL, std_nmul, std_sOf, sOf_str, std_isS, isS_str]
    · rintro ⟨i, hi, hz⟩
      cbv
      repeat' (first | with_reducible exact True.intro | with_reducible exact dr_ok hA (by kernel_rfl) | with_reducible refine And.intro ?_ ?_ | (intro hc; cbv))
      all_goals first
        | (fail_if_success (refine Exists.intro ?_ ?_)
           subst hA
           simp [-List.getD_eq_getElem?_getD, std_add, std_sub, std_mul, std_quo, std_rem, std_band, std_bor, std_bxor, std_shl, std_shr, std_eq, std_ne, std_lt, std_le, std_conv, std_not, std_beq, std_bne, std_ite, std_want, std_and2, std_sadd, std_seq, std_sne, std_slt, std_sle, std_sgt, std_sge, std_slen, std_sget, std_scut, std_ofNat, std_toNat, std_nsub, std_nadd, std_lenOf, std_nz, std_nneg, std_inb, std_upto, std_slt63, std_grow, std_imp, std_impN, std_tr, std_tb, std_ti, std_ts, std_tn, std_tp, std_nmin, std_makes, std_room, std_zeros, std_nilq, std_notq, std_eqi, std_eqn, std_eqb, std_eqs, std_eqv, std_cat, std_lst, std_rset, std_rcopy, std_shift, std_eqr, std_strOf, std_bytesOf, std_isB, std_zOf, zOf_int, std_isI, isI_int, std_getL, std_nmul, std_sOf, sOf_str, std_isS, isS_str, gD] at *
           done)
        | (fail_if_success (refine Exists.intro ?_ ?_)
           subst hA
           simp [-List.getD_eq_getElem?_getD, std_add, std_sub, std_mul, std_quo, std_rem, std_band, std_bor, std_bxor, std_shl, std_shr, std_eq, std_ne, std_lt, std_le, std_conv, std_not, std_beq, std_bne, std_ite, std_want, std_and2, std_sadd, std_seq, std_sne, std_slt, std_sle, std_sgt, std_sge, std_slen, std_sget, std_scut, std_ofNat, std_toNat, std_nsub, std_nadd, std_lenOf, std_nz, std_nneg, std_inb, std_upto, std_slt63, std_grow, std_imp, std_impN, std_tr, std_tb, std_ti, std_ts, std_tn, std_tp, std_nmin, std_makes, std_room, std_zeros, std_nilq, std_notq, std_eqi, std_eqn, std_eqb, std_eqs, std_eqv, std_cat, std_lst, std_rset, std_rcopy, std_shift, std_eqr, std_strOf, std_bytesOf, std_isB, std_zOf, zOf_int, std_isI, isI_int, std_getL, std_nmul, std_sOf, sOf_str, std_isS, isS_str, gD] at *
           first
             | omega
             | (constructor <;> omega)
             | (have hlt : i < r.length := by omega
                have hx : okB (r.getD i 0) = false := by (simp [-List.getD_eq_getElem?_getD, okB]; omega)
                rw [keyOk, all_false hlt hx]; simp; done)
             | (have hie : i = r.length := by omega
                subst hie
                rw [List.take_of_length_le (Nat.le_refl _)] at hz
                simp [keyOk, h0]; exact hz)
             | trace_state)
        | (have hlt : i < r.length := by clear hz; subst hA; simp [std_add, std_sub, std_mul, std_quo, std_rem, std_band, std_bor, std_bxor, std_shl, std_shr, std_eq, std_ne, std_lt, std_le, std_conv, std_not, std_beq, std_bne, std_ite, std_want, std_and2, std_sadd, std_seq, std_sne, std_slt, std_sle, std_sgt, std_sge, std_slen, std_sget, std_scut, std_ofNat, std_toNat, std_nsub, std_nadd, std_lenOf, std_nz, std_nneg, std_inb, std_upto, std_slt63, std_grow, std_imp, std_impN, std_tr, std_tb, std_ti, std_ts, std_tn, std_tp, std_nmin, std_makes, std_room, std_zeros, std_nilq, std_notq, std_eqi, std_eqn, std_eqb, std_eqs, std_eqv, std_cat, std_lst, std_rset, std_rcopy, std_shift, std_eqr, std_strOf, std_bytesOf, std_isB, std_zOf, zOf_int, std_isI, isI_int, std_getL, std_nmul, std_sOf, sOf_str, std_isS, isS_str] at *; omega
           have hx : okB (r.getD i 0) = true := by
             clear hz
             subst hA
             simp [-List.getD_eq_getElem?_getD, std_add, std_sub, std_mul, std_quo, std_rem, std_band, std_bor, std_bxor, std_shl, std_shr, std_eq, std_ne, std_lt, std_le, std_conv, std_not, std_beq, std_bne, std_ite, std_want, std_and2, std_sadd, std_seq, std_sne, std_slt, std_sle, std_sgt, std_sge, std_slen, std_sget, std_scut, std_ofNat, std_toNat, std_nsub, std_nadd, std_lenOf, std_nz, std_nneg, std_inb, std_upto, std_slt63, std_grow, std_imp, std_impN, std_tr, std_tb, std_ti, std_ts, std_tn, std_tp, std_nmin, std_makes, std_room, std_zeros, std_nilq, std_notq, std_eqi, std_eqn, std_eqb, std_eqs, std_eqv, std_cat, std_lst, std_rset, std_rcopy, std_shift, std_eqr, std_strOf, std_bytesOf, std_isB, std_zOf, zOf_int, std_isI, isI_int, std_getL, std_nmul, std_sOf, sOf_str, std_isS, isS_str, gD] at *
             simp [-List.getD_eq_getElem?_getD, okB]
             omega
           refine ⟨⟨i + 1, by omega, by rw [all_take hlt, hz, hx]; rfl⟩, ?_, show r.length - (i + 1) < r.length - i by omega⟩
           cbv
           subst hA
           simp [std_add, std_sub, std_mul, std_quo, std_rem, std_band, std_bor, std_bxor, std_shl, std_shr, std_eq, std_ne, std_lt, std_le, std_conv, std_not, std_beq, std_bne, std_ite, std_want, std_and2, std_sadd, std_seq, std_sne, std_slt, std_sle, std_sgt, std_sge, std_slen, std_sget, std_scut, std_ofNat, std_toNat, std_nsub, std_nadd, std_lenOf, std_nz, std_nneg, std_inb, std_upto, std_slt63, std_grow, std_imp, std_impN, std_tr, std_tb, std_ti, std_ts, std_tn, std_tp, std_nmin, std_makes, std_room, std_zeros, std_nilq, std_notq, std_eqi, std_eqn, std_eqb, std_eqs, std_eqv, std_cat, std_lst, std_rset, std_rcopy, std_shift, std_eqr, std_strOf, std_bytesOf, std_isB, std_zOf, zOf_int, std_isI, isI_int, std_getL, std_nmul, std_sOf, sOf_str, std_isS, isS_str]
           exact w64 (by omega))
        | trace_state
  all_goals (subst hA; simp [std_add, std_sub, std_mul, std_quo, std_rem, std_band, std_bor, std_bxor, std_shl, std_shr, std_eq, std_ne, std_lt, std_le, std_conv, std_not, std_beq, std_bne, std_ite, std_want, std_and2, std_sadd, std_seq, std_sne, std_slt, std_sle, std_sgt, std_sge, std_slen, std_sget, std_scut, std_ofNat, std_toNat, std_nsub, std_nadd, std_lenOf, std_nz, std_nneg, std_inb, std_upto, std_slt63, std_grow, std_imp, std_impN, std_tr, std_tb, std_ti, std_ts, std_tn, std_tp, std_nmin, std_makes, std_room, std_zeros, std_nilq, std_notq, std_eqi, std_eqn, std_eqb, std_eqs, std_eqv, std_cat, std_lst, std_rset, std_rcopy, std_shift, std_eqr, std_strOf, std_bytesOf, std_isB, std_zOf, zOf_int, std_isI, isI_int, std_getL, std_nmul, std_sOf, sOf_str, std_isS, isS_str] at *)
  all_goals (rw [Bool.eq_false_iff]; intro h; simp [keyOk] at h; omega)
theorem keyOk_le {s : Int} {r : List UInt8} (h : keyOk s r = true) : s ≤ 999999 ∧ r.length = 12 := by
  simp [keyOk] at h
  exact ⟨h.1, h.2.1⟩
noncomputable def c_kRight : Ct := fun A args => match args with
  | [.agg [.int .u32 s, .str r]] => some (none, .bool (A.tb fun _ => keyOk s r))
  | _ => none
noncomputable def c_kOf : Ct := fun A args => match args with
  | [.agg [.int .i64 a, .str p, .int .u64 c, .int .u32 s, .str r, .str e]] => some (none, .agg [.int .u32 s, .str r])
  | _ => none
noncomputable def c_dShort : Ct := fun A args => match args with
  | [.agg [.int .i64 a, .str p, .int .u64 c, .int .u32 s, .str r, .str e]] => some (none, .bool (A.tb fun _ => decide (p.length ≤ 300 ∧ r.length ≤ 300 ∧ e.length ≤ 300)))
  | _ => none
noncomputable def c_dRight : Ct := fun A args => match args with
  | [.agg [.int .i64 k, .str p, .int .u64 a, .int .u32 s, .str r, .str c]] => some (some (A.tp fun _ => p.length ≤ 100000 ∧ r.length ≤ 1000000 ∧ c.length ≤ 1000000), .bool (A.tb fun _ => dR k a s p r c))
  | _ => none
noncomputable def gk8 : Ar → Pu := addC 62 c_kRight (addC 39 c_kOf (addC 18 c_dShort (addC 21 c_dRight (gk2))))
theorem gk8_ok : PuOk Tryz.prog gl0 (gk8 std) := by
  refine addC_ok (addC_ok (addC_ok (addC_ok (gk2_ok) ⟨_, Tryz.func21, rfl, by decide⟩ ?_) ⟨_, Tryz.func18, rfl, by decide⟩ ?_) ⟨_, Tryz.func39, rfl, by decide⟩ ?_) ⟨_, Tryz.func62, rfl, by decide⟩ ?_
  · intro args p r h hp
    unfold c_dRight at h
    split at h <;> cases h
    exact good_dRight _ _ _ _ _ _ hp.1 hp.2.1 hp.2.2
  · intro args p r h hp
    unfold c_dShort at h
    split at h <;> cases h
    exact good_dShort _ _ _ _ _ _
  · intro args p r h hp
    unfold c_kOf at h
    split at h <;> cases h
    exact good_kOf _ _ _ _ _ _
  · intro args p r h hp
    unfold c_kRight at h
    split at h <;> cases h
    exact good_kRight _ _
end Go.Vd

set_option linter.unusedVariables false
set_option linter.unusedSimpArgs false
set_option maxRecDepth 100000
set_option maxHeartbeats 4000000
namespace Go.Vd
open Go.Proofs
structure Ent where
  s : Int
  r : List UInt8
  st : Int
  pan : List UInt8
  am : Int
  code : List UInt8
  tr : Int
  ca : Int
  deriving DecidableEq
structure Dl where
  k : Int
  pan : List UInt8
  am : Int
  s : Int
  r : List UInt8
  code : List UInt8
  deriving DecidableEq
def E0 : Ent := ⟨0, [], 0, [], 0, [], 0, 0⟩
def D0 : Dl := ⟨0, [], 0, 0, [], []⟩
def unT (e : Ent) : Bool := decide (e.tr = 0) && decide (e.ca = 0)
def tuR (e : Ent) : Bool := (decide (e.ca = 1) || decide (e.ca = 2)) && (decide (0 ≤ e.tr) && decide (e.tr ≤ 16))
def eSt (e : Ent) : Bool :=
  if e.st = 1 then decide (e.code = []) && unT e else if e.st = 2 then decide (e.code = [48, 48]) && unT e
  else if e.st = 3 then decide (¬e.code = [48, 48]) && (rr 39 e.code && unT e) else if e.st = 4 ∨ e.st = 5 ∨ e.st = 6 then rr 39 e.code && tuR e else false
def eR (e : Ent) : Bool := keyOk e.s e.r && (decide ((e.pan.length : Int) ≤ 19) && (lFine e.pan && (decide (e.am < 1000000000000) && eSt e)))
theorem eR_no {s st am tr ca : Int} {r pan code : List UInt8} (hc : ((keyOk s r = false ∨ (19 : Int) < (pan.length : Int)) ∨ lFine pan = false) ∨ 1000000000000 ≤ am) : eR ⟨s, r, st, pan, am, code, tr, ca⟩ = false := by
  rw [Bool.eq_false_iff]
  intro h
  simp only [eR, Bool.and_eq_true, decide_eq_true_eq] at h
  rcases hc with ((hc | hc) | hc) | hc
  · rw [hc] at h; cases h.1
  · omega
  · rw [hc] at h; cases h.2.2.1
  · omega
theorem eR_st {e : Ent} (h : ((keyOk e.s e.r = true ∧ (e.pan.length : Int) ≤ 19) ∧ lFine e.pan = true) ∧ e.am < 1000000000000) : eR e = eSt e := by
  unfold eR
  rw [h.1.1.1, decide_eq_true h.1.1.2, h.1.2, decide_eq_true h.2]
  rfl
noncomputable def gc1 : Ar → Pu := gk8
theorem gc1_ok : PuOk Tryz.prog gl0 (gc1 std) := by
  refine gk8_ok
noncomputable def gc2 : Ar → Pu := gc1
theorem gc2_ok : PuOk Tryz.prog gl0 (gc2 std) := by
  refine gc1_ok
end Go.Vd

set_option linter.unusedVariables false
set_option linter.unusedSimpArgs false
set_option maxRecDepth 100000
set_option maxHeartbeats 4000000
namespace Go.Vd
open Go.Proofs
def evK (v : Int) : Int := if v = 1 then 1 else if v = 2 then 2 else if v = 3 then 3 else if v = 5 then 7 else 0
def evO (v : Int) : Bool := decide (v = 1) || (decide (v = 2) || (decide (v = 3) || decide (v = 5)))
def dRR (d : Dl) : Bool := dR d.k d.am d.s d.pan d.r d.code
def vR (v : Int) (d : Dl) : Bool :=
  if v = 4 then decide (d.k = 0) && (decide (d.pan = []) && (decide (d.am = 0) && (decide (d.code = []) && keyOk d.s d.r)))
  else evO v && (decide (d.k = evK v) && dRR d)
def rF (e : Ent) (s : Int) (r : List UInt8) : Bool := decide (e = E0) || (eR e && (decide (e.s = s) && decide (e.r = r)))
theorem not8 {a b c d e f g h : Prop} (H : a → b → c → d → e → f → g → ¬h) : ¬a ∨ ¬b ∨ ¬c ∨ ¬d ∨ ¬e ∨ ¬f ∨ ¬g ∨ ¬h := by
  by_cases ha : a <;> by_cases hb : b <;> by_cases hc : c <;> by_cases hd : d <;> by_cases he : e <;> by_cases hf : f <;> by_cases hg : g <;> simp [ha, hb, hc, hd, he, hf, hg]
  exact H ha hb hc hd he hf hg
theorem good_cDeal (v : Int) : GoodP Tryz.prog gl0 63 [.int .i64 v] (.tup [.int .i64 (std.ti fun _ => evK v), .bool (std.tb fun _ => evO v)]) := by
  refine fn_sound' (T := seatT) (G := noC) (X := noX) seatT_ok noC_ok noX_ok noI_ok mixed Tryz.func63 (.one) (fun A => [.int .i64 v]) (fun A => .tup [.int .i64 (A.ti fun _ => evK v), .bool (A.tb fun _ => evO v)]) fun A hA => ?_
  cbv
  repeat' (first | with_reducible exact True.intro | with_reducible exact dr_ok hA (by kernel_rfl) | with_reducible refine And.intro ?_ ?_ | (intro hc; cbv))
  all_goals (subst hA; simp [std_add, std_sub, std_mul, std_quo, std_rem, std_band, std_bor, std_bxor, std_shl, std_shr, std_eq, std_ne, std_lt, std_le, std_conv, std_not, std_beq, std_bne, std_ite, std_want, std_and2, std_sadd, std_seq, std_sne, std_slt, std_sle, std_sgt, std_sge, std_slen, std_sget, std_scut, std_ofNat, std_toNat, std_nsub, std_nadd, std_lenOf, std_nz, std_nneg, std_inb, std_upto, std_slt63, std_grow, std_imp, std_impN, std_tr, std_tb, std_ti, std_ts, std_tn, std_tp, std_nmin, std_makes, std_room, std_zeros, std_nilq, std_notq, std_eqi, std_eqn, std_eqb, std_eqs, std_eqv, std_cat, std_lst, std_rset, std_rcopy, std_shift, std_eqr, std_strOf, std_bytesOf, std_isB, std_zOf, zOf_int, std_isI, isI_int, std_getL, std_nmul, std_sOf, sOf_str, std_isS, isS_str] at *)
  all_goals first
    | (subst_vars; simp_all [evK, evO]; done)
    | (simp [evK, evO, *]; done)
    | contradiction
    | trace_state
noncomputable def c_cDeal : Ct := fun A args => match args with
  | [.int .i64 v] => some (none, .tup [.int .i64 (A.ti fun _ => evK v), .bool (A.tb fun _ => evO v)])
  | _ => none
noncomputable def gc3 : Ar → Pu := addC 63 c_cDeal (gc2)
theorem gc3_ok : PuOk Tryz.prog gl0 (gc3 std) := by
  refine addC_ok (gc2_ok) ⟨_, Tryz.func63, rfl, by decide⟩ ?_
  · intro args p r h hp
    unfold c_cDeal at h
    split at h <;> cases h
    exact good_cDeal _
theorem good_cRight (v k am s : Int) (pan r code : List UInt8) (hp : pan.length ≤ 100000) (hr : r.length ≤ 1000000) (hcc : code.length ≤ 1000000) : GoodP Tryz.prog gl0 22 [.agg [.int .i64 v, .int .i64 k, .str pan, .int .u64 am, .int .u32 s, .str r, .str code]] (.bool (std.tb fun _ => vR v ⟨k, pan, am, s, r, code⟩)) := by
  refine fn_sound' (T := seatT) (G := gc3) (X := noX) seatT_ok gc3_ok noX_ok noI_ok mixed Tryz.func22 (.one) (fun A => [.agg [.int .i64 v, .int .i64 k, .str pan, .int .u64 am, .int .u32 s, .str r, .str code]]) (fun A => .bool (A.tb fun _ => vR v ⟨k, pan, am, s, r, code⟩)) fun A hA => ?_
  cbv
  repeat' (first | with_reducible exact True.intro | with_reducible exact dr_ok hA (by kernel_rfl) | with_reducible refine And.intro ?_ ?_ | (intro hc; cbv))
  all_goals (subst hA; try simp [std_add, std_sub, std_mul, std_quo, std_rem, std_band, std_bor, std_bxor, std_shl, std_shr, std_eq, std_ne, std_lt, std_le, std_conv, std_not, std_beq, std_bne, std_ite, std_want, std_and2, std_sadd, std_seq, std_sne, std_slt, std_sle, std_sgt, std_sge, std_slen, std_sget, std_scut, std_ofNat, std_toNat, std_nsub, std_nadd, std_lenOf, std_nz, std_nneg, std_inb, std_upto, std_slt63, std_grow, std_imp, std_impN, std_tr, std_tb, std_ti, std_ts, std_tn, std_tp, std_nmin, std_makes, std_room, std_zeros, std_nilq, std_notq, std_eqi, std_eqn, std_eqb, std_eqs, std_eqv, std_cat, std_lst, std_rset, std_rcopy, std_shift, std_eqr, std_strOf, std_bytesOf, std_isB, std_zOf, zOf_int, std_isI, isI_int, std_getL, std_nmul, std_sOf, sOf_str, std_isS, isS_str] at *)
  all_goals first
    | (intro h1 h2; exact ⟨⟨h1, h2⟩, hp, hr, hcc⟩)
    | (unfold vR; rw [if_pos hc, Bool.eq_iff_iff]; simp [and_assoc]; done)
    | (unfold vR dRR; rw [if_neg hc, Bool.eq_iff_iff]; simp [and_assoc]; done)
    | trace_state
noncomputable def c_cRight : Ct := fun A args => match args with
  | [.agg [.int .i64 v, .int .i64 k, .str pan, .int .u64 am, .int .u32 s, .str r, .str code]] => some (some (A.tp fun _ => pan.length ≤ 100000 ∧ r.length ≤ 1000000 ∧ code.length ≤ 1000000), .bool (A.tb fun _ => vR v ⟨k, pan, am, s, r, code⟩))
  | _ => none
noncomputable def gc4 : Ar → Pu := addC 22 c_cRight (gc3)
theorem gc4_ok : PuOk Tryz.prog gl0 (gc4 std) := by
  refine addC_ok (gc3_ok) ⟨_, Tryz.func22, rfl, by decide⟩ ?_
  · intro args p r h hp
    unfold c_cRight at h
    split at h <;> cases h
    exact good_cRight _ _ _ _ _ _ _ hp.1 hp.2.1 hp.2.2
end Go.Vd

set_option linter.unusedVariables false
set_option linter.unusedSimpArgs false
set_option maxRecDepth 100000
set_option maxHeartbeats 8000000
namespace Go.Vd
open Go.Proofs
theorem xor8 (x : UInt8) {b : Int} (hb : 0 ≤ b ∧ b < 256) : ∃ y : UInt8, bits .xor .u8 (x.toNat : Int) b = (y.toNat : Int) ∧ (y = x ↔ b = 0) := by
  obtain ⟨n, rfl⟩ : ∃ n : Nat, b = n := ⟨b.toNat, by omega⟩
  have hn : n < 256 := by omega
  have hx := UInt8.toNat_lt x
  have hlt : x.toNat ^^^ n < 256 := Nat.xor_lt_two_pow (n := 8) (by omega) (by omega)
  refine ⟨UInt8.ofNat (x.toNat ^^^ n), ?_, ?_⟩
  · have h1 : (UInt8.ofNat (x.toNat ^^^ n)).toNat = x.toNat ^^^ n := by rw [UInt8.toNat_ofNat']; omega
    rw [h1]
    have h2 : (BitVec.ofInt 8 (x.toNat : Int) ^^^ BitVec.ofInt 8 (n : Int)).toNat = x.toNat ^^^ n := by
      rw [BitVec.toNat_xor]
      simp only [BitVec.ofInt_natCast, BitVec.toNat_ofNat]
      rw [Nat.mod_eq_of_lt (by omega), Nat.mod_eq_of_lt (by omega)]
    show IntKind.u8.wrap ((BitVec.ofInt 8 (x.toNat : Int) ^^^ BitVec.ofInt 8 (n : Int)).toNat : Int) = _
    rw [h2]
    unfold IntKind.wrap
    simp [IntKind.signed, IntKind.bits]
    omega
  · constructor
    · intro h
      have h1 := congrArg UInt8.toNat h
      rw [UInt8.toNat_ofNat', Nat.mod_eq_of_lt hlt] at h1
      have h2 : x.toNat ^^^ (x.toNat ^^^ n) = x.toNat ^^^ x.toNat := by rw [h1]
      rw [← Nat.xor_assoc, Nat.xor_self, Nat.zero_xor] at h2
      omega
    · intro h
      have : n = 0 := by omega
      subst this
      rw [Nat.xor_zero, UInt8.ofNat_toNat]
theorem cat0 (g f : Nat → Nat → SV) : catS 0 g f = f := by funext i j; simp [catS]
theorem rowB_at (B : List UInt8) (j : Nat) : rowF eB 0 std (fun _ => B) j 0 = .int .u8 ((B.getD j 0).toNat : Int) := rfl
theorem set_reps (B : List UInt8) {j : Nat} (hj : j < B.length) {z : Int} {y : UInt8} (hz : z = y.toNat) : Reps eB 0 1 B.length (rsetS (rowF eB 0 std fun _ => B) j 0 [SV.int .u8 z]) (B.set j y) :=
  (Reps.lit B).rset' hj y rfl (cell_eB hz)
theorem set_iff {B : List UInt8} {j : Nat} (hj : j < B.length) {y : UInt8} : B.set j y = B ↔ y = B.getD j 0 := by
  have e : B.getD j 0 = B[j] := by rw [List.getD_eq_getElem?_getD, List.getElem?_eq_getElem hj]; rfl
  rw [e]
  constructor
  · intro h
    have := congrArg (·[j]?) h
    simpa [hj] using this
  · rintro rfl
    exact List.set_getElem_self hj
theorem body_sum {L : List It} (h : ∀ x ∈ L, rr x.1 x.2 = true) : (body L).length ≤ (L.map fun x => x.2.length + 3).sum := by
  induction L with
  | nil => simp [body]
  | cons x L ih =>
    rw [body_cons, List.length_append, List.map_cons, List.sum_cons]
    have h1 := fWr_len (h x (by simp))
    have := ih fun y hy => h y (List.mem_cons_of_mem _ hy)
    omega
theorem dB_len {k a s : Int} {p r c : List UInt8} (h : dR k a s p r c = true) (ha : 0 ≤ a) (hs : 0 ≤ s) : 12 ≤ (mW (tyOf k) (dIs k a s p r c)).length ∧ (mW (tyOf k) (dIs k a s p r c)).length ≤ 200 := by
  have hR := dIs_R h ha hs
  have hi := mR_iff.1 hR
  refine ⟨mW_ne hR, ?_⟩
  obtain ⟨b1, b2, b3, b4, b5, b6⟩ := bof_ups hi.2.2.2 (fs_bf hi.2.2.1)
  have hbb := bb_len b2
  have hT := mT_len hi.1
  have hl := dR_len h
  obtain ⟨q1, q2, q3, q4, q5, q6⟩ := dR_parts h ha hs
  have l11 := (rr11.1 q2).1
  have l90 := (rr90.1 q5).1
  have hs := body_sum hi.2.2.1
  have hbits : (mBits (dIs k a s p r c)).length ≤ 16 := by unfold mBits; rw [hbb]; split <;> omega
  have hsum : ((dIs k a s p r c).map fun x => x.2.length + 3).sum ≤ 120 := by
    unfold dIs
    split
    · rename_i e
      have l4 := (rr4.1 (q6 (asks_tl e)).2.1).1
      simp
      omega
    · split
      · rename_i e
        have l4 := (rr4.1 (q6 e).2.1).1
        simp
        omega
      · simp
        omega
  unfold mW
  rw [List.length_append, List.length_append]
  omega
theorem db_iff {k a s : Int} {p r c : List UInt8} (hd : dR k a s p r c = true) (ha : 0 ≤ a) (hs : 0 ≤ s) {B : List UInt8} (h : mRe B = 0) :
    (dE (mRT B) (mRL B) = 0 ∧ xK (mRT B) (mRL B) = k ∧ xP (mRT B) (mRL B) = p ∧ xA (mRT B) (mRL B) = a ∧ xS (mRT B) (mRL B) = s ∧ xR (mRT B) (mRL B) = r ∧ xC (mRT B) (mRL B) = c) ↔ B = mW (tyOf k) (dIs k a s p r c) := by
  have g := mR_good h
  constructor
  · rintro ⟨h1, h2, h3, h4, h5, h6, h7⟩
    have q := d_good h1
    rw [h2, h3, h4, h5, h6, h7] at q
    rw [q.2.1, q.2.2.1]
    exact g.2.symm
  · intro e
    have hR := dIs_R hd ha hs
    have hb := mR_back hR
    have b := d_back hd ha hs
    rw [e, hb.2.1, hb.2.2]
    exact ⟨b.1, b.2.1, b.2.2.2.2.1, b.2.2.1, b.2.2.2.1, b.2.2.2.2.2.1, b.2.2.2.2.2.2⟩
end Go.Vd

set_option linter.unusedVariables false
set_option linter.unusedSimpArgs false
set_option maxRecDepth 100000
set_option maxHeartbeats 8000000
namespace Go.Vd
open Go.Proofs
noncomputable def c_lEvent : Ct := fun A args => match args with
  | [.int .i64 s, .slc n 1 f] => some (some (A.tp fun _ => isRow eB 0 1 n f ∧ n ≤ 1000000), .tup [lEvT A s (fun _ => lstOf eB 0 1 n f), .bool (A.tb fun _ => lOk s (lstOf eB 0 1 n f))])
  | _ => none
noncomputable def c_lNext9 : Ct := fun A args => match args with
  | [.agg [.slc n 1 f, .bool br], .slc m 1 g] => some (some (A.tp fun _ => (isRow eB 0 1 n f ∧ isRow eB 0 1 m g) ∧ n ≤ 10000 ∧ m ≤ 10000), aNxT A (fun _ => lstOf eB 0 1 n f) br (fun _ => lstOf eB 0 1 m g))
  | _ => none
noncomputable def c_cRight9 : Ct := fun A args => match args with
  | [.agg [.int .i64 v, .int .i64 k, .str pan, .int .u64 am, .int .u32 s, .str r, .str code]] => some (some (A.tp fun _ => pan.length ≤ 100000 ∧ r.length ≤ 1000000 ∧ code.length ≤ 1000000), .bool (A.tb fun _ => vR v ⟨k, pan, am, s, r, code⟩))
  | _ => none
noncomputable def c_oShort9 : Ct := fun A args => match args with
  | [.agg [.int .i64 a, .str p, .int .u64 c, .int .u32 s, .str r, .str e]] => some (none, .bool (A.tb fun _ => oSh p r e))
  | _ => none
noncomputable def gP2 : Ar → Pu := addC 10 c_lEvent (addC 12 c_lNext9 (gP1))
theorem gP2_ok : PuOk Tryz.prog gl0 (gP2 std) := by
  refine addC_ok (addC_ok (gP1_ok) ⟨_, Tryz.func12, rfl, by decide⟩ ?_) ⟨_, Tryz.func10, rfl, by decide⟩ ?_
  · intro args p r h hp
    unfold c_lNext9 at h
    split at h <;> cases h
    exact good_sv (good_lNext _ _ _ (by rw [lstOf_length hp.1.1]; exact hp.2.1) (by rw [lstOf_length hp.1.2]; exact hp.2.2)) ⟨⟨_, rfl, hp.1.1.sv, rfl, trivial⟩, hp.1.2.sv, trivial⟩
  · intro args p r h hp
    unfold c_lEvent at h
    split at h <;> cases h
    exact good_sv (good_lEvent _ _ (by rw [lstOf_length hp.1]; exact hp.2)) ⟨rfl, hp.1.sv, trivial⟩
noncomputable def gP3 : Ar → Pu := addC 22 c_cRight9 (addC 18 c_oShort9 (gP2))
theorem gP3_ok : PuOk Tryz.prog gl0 (gP3 std) := by
  refine addC_ok (addC_ok (gP2_ok) ⟨_, Tryz.func18, rfl, by decide⟩ ?_) ⟨_, Tryz.func22, rfl, by decide⟩ ?_
  · intro args p r h hp
    unfold c_oShort9 at h
    split at h <;> cases h
    exact good_oShort _ _ _ _ _ _
  · intro args p r h hp
    unfold c_cRight9 at h
    split at h <;> cases h
    exact good_cRight _ _ _ _ _ _ _ hp.1 hp.2.1 hp.2.2
theorem nGo_fix {R B : List UInt8} {x : UInt8} (h : fOk R false = true) (h1 : fOk (R ++ [x]) false = true) : nGo R (x :: B) = nGo (R ++ [x]) B := by
  have e : fFeed R false [x] = ⟨R ++ [x], false, [], 0⟩ := by rw [fFeed_go h, fParse_fix h1]; rfl
  rw [nGo_on (by rw [e]) (by rw [e]), e]
theorem nGo_full {R B : List UInt8} {x : UInt8} (h : fOk R false = true) (h2 : ¬(R ++ [x]).length < 2) (h1 : fMay (fLen (R ++ [x])) = true) (h3 : (R ++ [x]).length = 2 + fLen (R ++ [x])) : nGo R (x :: B) = ⟨[], false, B, (R ++ [x]).drop 2, 0⟩ := by
  have e : fFeed R false [x] = ⟨[], false, [(R ++ [x]).drop 2], 0⟩ := by
    have := fParse_full (T := []) h2 h1 h3
    rw [List.append_nil] at this
    rw [fFeed_go h, this, fParse_short (by simp)]
    rfl
  rw [nGo_told (by rw [e]) (by rw [e]; simp), e]
  rfl
theorem nGo_bad {R B : List UInt8} {x : UInt8} (h : fOk R false = true) (h2 : ¬(R ++ [x]).length < 2) (h1 : fMay (fLen (R ++ [x])) = false) : (nGo R (x :: B)).e = 12 := by
  have e : fFeed R false [x] = ⟨[], true, [], 12⟩ := by rw [fFeed_go h, fParse_bad h2 h1]; rfl
  rw [nGo_err (by rw [e]; decide), e]
theorem aw_n1 : nNx [] false [0, 2, 97, 98, 0, 1, 99] = ⟨[], false, [0, 1, 99], [97, 98], 0⟩ := by
  rw [nNx_go (by decide), nGo_fix (by decide) (by decide), nGo_fix (by decide) (by decide), nGo_fix (by decide) (by decide), nGo_full (by decide) (by decide) (by decide) (by decide)]
  rfl
theorem aw_n2 : (nNx [] false [0, 0]).e = 12 := by
  rw [nNx_go (by decide), nGo_fix (by decide) (by decide), nGo_bad (by decide) (by decide) (by decide)]
def awR : List UInt8 := [82, 82, 78, 48, 48, 48, 48, 48, 48, 48, 48, 49]
theorem aw_R : dR 7 0 1 [] [82, 82, 78, 48, 48, 48, 48, 48, 48, 48, 48, 49] [48, 48] = true := by decide +kernel
def awB : List UInt8 := mW (tyOf 7) (dIs 7 0 1 [] [82, 82, 78, 48, 48, 48, 48, 48, 48, 48, 48, 49] [48, 48])
theorem aw_B : mRe awB = 0 ∧ lOk 2 awB = true ∧ lOk 1 awB = false ∧ lKd 2 awB = 5 ∧ lI 2 awB (xS (mRT awB) (mRL awB)) = 1 ∧ awB.length ≤ 200 ∧ dWT 7 0 1 [] [82, 82, 78, 48, 48, 48, 48, 48, 48, 48, 48, 49] [48, 48] = tyOf 7 ∧ dWL 7 0 1 [] [82, 82, 78, 48, 48, 48, 48, 48, 48, 48, 48, 49] [48, 48] = dIs 7 0 1 [] [82, 82, 78, 48, 48, 48, 48, 48, 48, 48, 48, 49] [48, 48] ∧ dWe 7 0 1 [] [82, 82, 78, 48, 48, 48, 48, 48, 48, 48, 48, 49] [48, 48] = 0 ∧ mWx (tyOf 7) (dIs 7 0 1 [] [82, 82, 78, 48, 48, 48, 48, 48, 48, 48, 48, 49] [48, 48]) = awB ∧ mWe (tyOf 7) (dIs 7 0 1 [] [82, 82, 78, 48, 48, 48, 48, 48, 48, 48, 48, 49] [48, 48]) = 0 := by
  have hw := dw_yes aw_R
  have hR := dIs_R aw_R (by decide) (by decide)
  have hb := d_back aw_R (by decide) (by decide)
  have hm := mw_yes hR
  have hk := mR_back hR
  have hB := dB_len aw_R (by decide) (by decide)
  have e2 : lOk 2 awB = true := by
    unfold lOk awB
    rw [hk.2.1, hk.2.2, hb.2.1]; decide
  refine ⟨hk.1, e2, ?_, ?_, ?_, hB.2, hw.1, hw.2.1, hw.2.2, hm.1, hm.2⟩
  · unfold lOk awB
    rw [hk.2.1, hk.2.2, hb.2.1]; decide
  · unfold lKd awB
    rw [hk.2.1, hk.2.2, hb.2.1]; decide
  · rw [lI_yes e2]
    unfold awB
    rw [hk.2.1, hk.2.2, hb.2.2.2.1]
theorem aw_L : (dIs 7 0 1 [] [82, 82, 78, 48, 48, 48, 48, 48, 48, 48, 48, 49] [48, 48]).length ≤ 5 ∧ ∀ i, ((dIs 7 0 1 [] [82, 82, 78, 48, 48, 48, 48, 48, 48, 48, 48, 49] [48, 48]).getD i (0, [])).2.length ≤ 1000000 := by
  refine ⟨by rw [dIs_len]; exact (fOf_len 7).2, fun i => Nat.le_trans (val_len (dIs_R aw_R (by decide) (by decide)) i) (by decide)⟩
theorem ceqB {z : Int} {x : UInt8} (h : z = (x.toNat : Int)) : ∀ j, j < 1 → Ceq (getAt [SV.int .u8 z] j) (getAt (eB std fun _ => x) j) := fun j hj => by
  obtain rfl : j = 0 := by omega
  subst h
  exact .refl _
theorem aw_r1 : Reps eB 0 1 7 (lstS [[SV.int .u8 0], [SV.int .u8 2], [SV.int .u8 97], [SV.int .u8 98], [SV.int .u8 0], [SV.int .u8 1], [SV.int .u8 99]]) [0, 2, 97, 98, 0, 1, 99] :=
  Reps.lst (l := [[SV.int .u8 0], [SV.int .u8 2], [SV.int .u8 97], [SV.int .u8 98], [SV.int .u8 0], [SV.int .u8 1], [SV.int .u8 99]]) ⟨ceqB rfl, ceqB rfl, ceqB rfl, ceqB rfl, ceqB rfl, ceqB rfl, ceqB rfl, trivial⟩
theorem aw_r2 : Reps eB 0 1 2 (lstS [[SV.int .u8 0], [SV.int .u8 0]]) [0, 0] :=
  Reps.lst (l := [[SV.int .u8 0], [SV.int .u8 0]]) ⟨ceqB rfl, ceqB rfl, trivial⟩
theorem aw_l1 : lstOf eB 0 1 7 (lstS [[SV.int .u8 0], [SV.int .u8 2], [SV.int .u8 97], [SV.int .u8 98], [SV.int .u8 0], [SV.int .u8 1], [SV.int .u8 99]]) = [0, 2, 97, 98, 0, 1, 99] := lstOf_eq inj_eB aw_r1
theorem aw_l2 : lstOf eB 0 1 2 (lstS [[SV.int .u8 0], [SV.int .u8 0]]) = [0, 0] := lstOf_eq inj_eB aw_r2
theorem good_lAwake  : GoodP Tryz.prog gl0 9 [] (.bool true) := by
  refine fn_sound' (T := seatT) (G := gP3) (X := noX) seatT_ok gP3_ok noX_ok noI_ok mixed Tryz.func9 (.one) (fun A => []) (fun A => .bool true) fun A hA => ?_
  cbv
  repeat' (first | with_reducible exact True.intro | with_reducible exact dr_ok hA (by kernel_rfl) | with_reducible refine And.intro ?_ ?_ | (intro hc; cbv))
  all_goals (subst hA; simp only [std_add, std_sub, std_mul, std_quo, std_rem, std_band, std_bor, std_bxor, std_shl, std_shr, std_eq, std_ne, std_lt, std_le, std_conv, std_not, std_beq, std_bne, std_ite, std_want, std_and2, std_sadd, std_seq, std_sne, std_slt, std_sle, std_sgt, std_sge, std_slen, std_sget, std_scut, std_ofNat, std_toNat, std_nsub, std_nadd, std_lenOf, std_nz, std_nneg, std_inb, std_upto, std_slt63, std_grow, std_imp, std_impN, std_tr, std_tb, std_ti, std_ts, std_tn, std_tp, std_nmin, std_makes, std_room, std_zeros, std_nilq, std_notq, std_eqi, std_eqn, std_eqb, std_eqs, std_eqv, std_cat, std_lst, std_rset, std_rcopy, std_shift, std_eqr, std_strOf, std_bytesOf, std_isB, std_zOf, zOf_int, std_isI, isI_int, std_getL, std_nmul, std_sOf, sOf_str, std_isS, isS_str, strOf_lit, lstOf_lit inj_eB, lstOf_lit inj_eZ, lstOf_lit inj_eBs, lstOf_lit inj_eS, lstOf_lit inj_eI, lstOf_nil inj_eB, aw_l1, aw_l2, aw_n1, aw_n2, aw_B.2.2.2.2.2.2.1, aw_B.2.2.2.2.2.2.2.1, aw_B.2.2.2.2.2.2.2.2.1, aw_B.2.2.2.2.2.2.2.2.2.1, aw_B.2.2.2.2.2.2.2.2.2.2, aw_B.1, aw_B.2.1, aw_B.2.2.1, aw_B.2.2.2.1, aw_B.2.2.2.2.1] at *)
  all_goals first
    | done
    | decide
    | exact fun h => ⟨h, isB_lit _⟩
    | exact ⟨isRow_lit _, Nat.le_trans aw_L.1 (by decide), aw_L.2⟩
    | exact ⟨isRow_lit _, Nat.le_trans aw_B.2.2.2.2.2.1 (by decide)⟩
    | exact ⟨⟨isRow_nil, ⟨_, aw_r1⟩⟩, by decide, by decide⟩
    | exact ⟨⟨isRow_lit _, ⟨_, aw_r2⟩⟩, by decide, by decide⟩
    | trace_state
end Go.Vd

set_option linter.unusedVariables false
set_option linter.unusedSimpArgs false
set_option maxRecDepth 100000
set_option maxHeartbeats 8000000
namespace Go.Vd
open Go.Proofs
noncomputable def c_lAwake : Ct := fun A args => match args with
  | [] => some (none, .bool true)
  | _ => none
noncomputable def gP5 : Ar → Pu := addC 9 c_lAwake (gP4)
theorem gP5_ok : PuOk Tryz.prog gl0 (gP5 std) := by
  refine addC_ok (gP4_ok) ⟨_, Tryz.func9, rfl, by decide⟩ ?_
  · intro args p r h hp
    unfold c_lAwake at h
    split at h <;> cases h
    exact good_lAwake
structure LP where
  i : Nat
  R : List UInt8
  G : List (List UInt8)
  F : List UInt8
  sec : Bool
def lpX (sec : Bool) (B : List UInt8) : List UInt8 := if sec = true then [] else B
def lpN (sec : Bool) (B : List UInt8) : Nat := if sec = true then 0 else B.length + 1
def lpOk (R0 L B : List UInt8) (p : LP) : Prop := fOk p.R false = true ∧ toGo p.R p.F (lpX p.sec B) p.G = fFeed R0 false (L ++ B) ∧ p.i + p.F.length + lpN p.sec B ≤ L.length + B.length + 1 ∧ p.F.length ≤ 5000 ∧ p.G.length ≤ p.i
theorem lp_0 {R0 L B : List UInt8} (h : fOk R0 false = true) (hL : L.length ≤ 5000) : lpOk R0 L B ⟨0, R0, [], L, false⟩ := by
  refine ⟨h, ?_, ?_, hL, Nat.le_refl _⟩
  · unfold toGo lpX
    simp
  · simp [lpN]; omega
theorem lp_told {R0 L B : List UInt8} {p : LP} (h : lpOk R0 L B p) (he : (nGo p.R p.F).e = 0) : lpOk R0 L B ⟨p.i + 1, (nGo p.R p.F).rest, p.G ++ [(nGo p.R p.F).fr], (nGo p.R p.F).left, p.sec⟩ ∧ (nGo p.R p.F).br = false ∧ (nGo p.R p.F).left.length < p.F.length := by
  obtain ⟨h1, h2, h3, h4, h5⟩ := h
  obtain ⟨g1, g2, g3, g4⟩ := toGo_told (X := lpX p.sec B) (G := p.G) h1 he
  refine ⟨⟨g3, by rw [← g1]; exact h2, ?_, ?_, ?_⟩, g2, g4⟩
  · simp only; omega
  · simp only; omega
  · simp only [List.length_append, List.length_singleton]; omega
theorem lp_none {R0 L B : List UInt8} {p : LP} (h : lpOk R0 L B p) (hB : B.length ≤ 5000) (he : (nGo p.R p.F).e = 5) (hs : p.sec = false) : lpOk R0 L B ⟨p.i + 1, (nGo p.R p.F).rest, p.G, B, true⟩ ∧ (nGo p.R p.F).br = false := by
  obtain ⟨h1, h2, h3, h4, h5⟩ := h
  have g := nGo_none h1 he
  have t := toGo_none (X := B) (G := p.G) h1 he
  rw [hs] at h2 h3
  refine ⟨⟨g.2.1, ?_, ?_, hB, by simp only; omega⟩, g.1⟩
  · have e : toGo (nGo p.R p.F).rest B (lpX true B) p.G = toGo (nGo p.R p.F).rest [] B p.G := by unfold toGo lpX; simp
    rw [← h2]
    exact e.trans t.symm
  · simp only [lpN, if_true]
    simp [lpN] at h3
    omega
theorem lp_end {R0 L B : List UInt8} {p : LP} (h : lpOk R0 L B p) (he : (nGo p.R p.F).e = 5) (hs : p.sec = true) : (fFeed R0 false (L ++ B)).rest = (nGo p.R p.F).rest ∧ (fFeed R0 false (L ++ B)).br = (nGo p.R p.F).br ∧ (fFeed R0 false (L ++ B)).told = p.G ∧ (fFeed R0 false (L ++ B)).e = 0 := by
  obtain ⟨h1, h2, h3, h4, h5⟩ := h
  rw [hs] at h2
  have t := toGo_end (G := p.G) h1 he
  rw [← h2]
  have e : lpX true B = [] := rfl
  rw [e, t.1, t.2]
  exact ⟨rfl, rfl, rfl, rfl⟩
theorem lp_broken {R0 L B : List UInt8} {p : LP} (h : lpOk R0 L B p) (he : (nGo p.R p.F).e = 12) : (fFeed R0 false (L ++ B)).rest = (nGo p.R p.F).rest ∧ (fFeed R0 false (L ++ B)).br = (nGo p.R p.F).br ∧ (fFeed R0 false (L ++ B)).told = p.G ∧ (fFeed R0 false (L ++ B)).e = 12 := by
  obtain ⟨h1, h2, h3, h4, h5⟩ := h
  have t := toGo_broken (X := lpX p.sec B) (G := p.G) h1 he
  rw [← h2, t.1, t.2.1, t.2.2]
  exact ⟨rfl, rfl, rfl, rfl⟩
theorem bapp2 (l m : List UInt8) (f : Nat → Nat → SV) : Reps eB 0 1 (l.length + m.length) (catS l.length (catS 0 f (rowF eB 0 std fun _ => l)) (rowF eB 0 std fun _ => m)) (l ++ m) := by
  have h := (Reps.nil (enc := eB) (d := 0) (k := 1) (f := f)).cat (Reps.lit l)
  rw [Nat.zero_add, List.nil_append] at h
  exact h.cat (Reps.lit m)
theorem lbapp2 (l m : List UInt8) (f : Nat → Nat → SV) : lstOf eB 0 1 (l.length + m.length) (catS l.length (catS 0 f (rowF eB 0 std fun _ => l)) (rowF eB 0 std fun _ => m)) = l ++ m := lstOf_eq inj_eB (bapp2 l m f)
theorem rbapp2 (l m : List UInt8) (f : Nat → Nat → SV) : isRow eB 0 1 (l.length + m.length) (catS l.length (catS 0 f (rowF eB 0 std fun _ => l)) (rowF eB 0 std fun _ => m)) := ⟨_, bapp2 l m f⟩
theorem cat0_row (l : List UInt8) (f : Nat → Nat → SV) : eqrS l.length 1 (catS 0 f (rowF eB 0 std fun _ => l)) (rowF eB 0 std fun _ => l) := by
  have h := (Reps.nil (enc := eB) (d := 0) (k := 1) (f := f)).cat (Reps.lit l)
  rw [Nat.zero_add, List.nil_append] at h
  exact h.eqr
theorem w_succ5 {a b : Nat} (h : b = a + 1) (hb : a ≤ 1000000000000) : IntKind.i64.wrap ((a : Int) + 1) = (b : Int) := by
  rw [w64 (by omega)]; omega
theorem good_LineParts (br : Bool) (R L B : List UInt8) : GoodP Tryz.prog gl0 4 [sR std (fun _ => R) br, rowS eB 0 1 std fun _ => L, rowS eB 0 1 std fun _ => B] (.bool true) := by
  refine fn_sound' (T := seatT) (G := gP5) (X := noX) seatT_ok gP5_ok noX_ok noI_ok mixed Tryz.func4 (.one) (fun A => [sR A (fun _ => R) br, rowS eB 0 1 A fun _ => L, rowS eB 0 1 A fun _ => B]) (fun A => .bool true) fun A hA => ?_
  cbv
  repeat' (first | with_reducible exact True.intro | with_reducible exact dr_ok hA (by kernel_rfl) | with_reducible refine And.intro ?_ ?_ | (intro hc; cbv))
  all_goals first
    | (fail_if_success (refine Exists.intro ?_ ?_)
       subst hA; simp [-List.getD_eq_getElem?_getD, std_add, std_sub, std_mul, std_quo, std_rem, std_band, std_bor, std_bxor, std_shl, std_shr, std_eq, std_ne, std_lt, std_le, std_conv, std_not, std_beq, std_bne, std_ite, std_want, std_and2, std_sadd, std_seq, std_sne, std_slt, std_sle, std_sgt, std_sge, std_slen, std_sget, std_scut, std_ofNat, std_toNat, std_nsub, std_nadd, std_lenOf, std_nz, std_nneg, std_inb, std_upto, std_slt63, std_grow, std_imp, std_impN, std_tr, std_tb, std_ti, std_ts, std_tn, std_tp, std_nmin, std_makes, std_room, std_zeros, std_nilq, std_notq, std_eqi, std_eqn, std_eqb, std_eqs, std_eqv, std_cat, std_lst, std_rset, std_rcopy, std_shift, std_eqr, std_strOf, std_bytesOf, std_isB, std_zOf, zOf_int, std_isI, isI_int, std_getL, std_nmul, std_sOf, sOf_str, std_isS, isS_str, strOf_lit, lstOf_lit inj_eB, lstOf_lit inj_eZ, lstOf_lit inj_eBs, lstOf_lit inj_eS, isRow_lit, isB_lit, isRow_nil, lstOf_nil inj_eB, lstOf_nil inj_eZ, lstOf_nil inj_eBs, lstOf_nil inj_eS, lbapp2, rbapp2] at *
       first
         | omega
         | (constructor <;> omega)
         | trace_state)
    | skip
  have hq : (((L.length : Int) ≤ 5000 ∧ (B.length : Int) ≤ 5000) ∧ (R.length : Int) ≤ 5000) ∧ fOk R br = true ∧ br = false := by
    subst hA; simp [-List.getD_eq_getElem?_getD, std_add, std_sub, std_mul, std_quo, std_rem, std_band, std_bor, std_bxor, std_shl, std_shr, std_eq, std_ne, std_lt, std_le, std_conv, std_not, std_beq, std_bne, std_ite, std_want, std_and2, std_sadd, std_seq, std_sne, std_slt, std_sle, std_sgt, std_sge, std_slen, std_sget, std_scut, std_ofNat, std_toNat, std_nsub, std_nadd, std_lenOf, std_nz, std_nneg, std_inb, std_upto, std_slt63, std_grow, std_imp, std_impN, std_tr, std_tb, std_ti, std_ts, std_tn, std_tp, std_nmin, std_makes, std_room, std_zeros, std_nilq, std_notq, std_eqi, std_eqn, std_eqb, std_eqs, std_eqv, std_cat, std_lst, std_rset, std_rcopy, std_shift, std_eqr, std_strOf, std_bytesOf, std_isB, std_zOf, zOf_int, std_isI, isI_int, std_getL, std_nmul, std_sOf, sOf_str, std_isS, isS_str, strOf_lit, lstOf_lit inj_eB, lstOf_lit inj_eZ, lstOf_lit inj_eBs, lstOf_lit inj_eS, isRow_lit, isB_lit, isRow_nil, lstOf_nil inj_eB, lstOf_nil inj_eZ, lstOf_nil inj_eBs, lstOf_nil inj_eS] at *; exact ⟨hc.1.1, hc.1.2, hc.2⟩
  obtain ⟨⟨⟨hL5, hB5⟩, hR5⟩, hok, hb⟩ := hq
  subst hb
  clear hc
  refine ⟨⟨{p : LP // lpOk R L B p}, fun b p => [(10, .own b), (11, rowS eB 0 1 A fun _ => p.1.F), (12, .bool p.1.sec), (13, .int .i64 (p.1.i : Nat))], fun b p => [(b, .row 22 1 (A.tn fun _ => p.1.G.length) (rowF eBs [] A fun _ => p.1.G)), (0, .box 24 [rowS eB 0 1 A fun _ => p.1.R, .bool false])], fun p => L.length + B.length + 4 - p.1.i, true⟩, ⟨⟨⟨0, R, [], L, false⟩, lp_0 hok (by omega)⟩, ?_⟩, ?_⟩
  · cbv
    subst hA
    simp [-List.getD_eq_getElem?_getD, std_add, std_sub, std_mul, std_quo, std_rem, std_band, std_bor, std_bxor, std_shl, std_shr, std_eq, std_ne, std_lt, std_le, std_conv, std_not, std_beq, std_bne, std_ite, std_want, std_and2, std_sadd, std_seq, std_sne, std_slt, std_sle, std_sgt, std_sge, std_slen, std_sget, std_scut, std_ofNat, std_toNat, std_nsub, std_nadd, std_lenOf, std_nz, std_nneg, std_inb, std_upto, std_slt63, std_grow, std_imp, std_impN, std_tr, std_tb, std_ti, std_ts, std_tn, std_tp, std_nmin, std_makes, std_room, std_zeros, std_nilq, std_notq, std_eqi, std_eqn, std_eqb, std_eqs, std_eqv, std_cat, std_lst, std_rset, std_rcopy, std_shift, std_eqr, std_strOf, std_bytesOf, std_isB, std_zOf, zOf_int, std_isI, isI_int, std_getL, std_nmul, std_sOf, sOf_str, std_isS, isS_str, strOf_lit, lstOf_lit inj_eB, lstOf_lit inj_eZ, lstOf_lit inj_eBs, lstOf_lit inj_eS, isRow_lit, isB_lit, isRow_nil, lstOf_nil inj_eB, lstOf_nil inj_eZ, lstOf_nil inj_eBs, lstOf_nil inj_eS]
    first
      | exact cat0_row _ _
      | trace_state
  · rintro ⟨⟨i, S, G, F, sec⟩, hp⟩
    have hS := hp.1
    have hi : i + F.length + lpN sec B ≤ L.length + B.length + 1 := hp.2.2.1
    have hF : F.length ≤ 5000 := hp.2.2.2.1
    have hG : G.length ≤ i := hp.2.2.2.2
    simp only at hS
    have hlen := fOk_len hS
    have hN := nNx_go (B := F) hS
    have hn : L.length ≤ 5000 ∧ B.length ≤ 5000 := by omega
    cbv
    repeat' (first | with_reducible exact True.intro | with_reducible exact dr_ok hA (by kernel_rfl) | with_reducible refine And.intro ?_ ?_ | (intro hc; cbv))
    all_goals first
      | (fail_if_success (refine Exists.intro ?_ ?_)
         subst hA
         simp [-List.getD_eq_getElem?_getD, std_add, std_sub, std_mul, std_quo, std_rem, std_band, std_bor, std_bxor, std_shl, std_shr, std_eq, std_ne, std_lt, std_le, std_conv, std_not, std_beq, std_bne, std_ite, std_want, std_and2, std_sadd, std_seq, std_sne, std_slt, std_sle, std_sgt, std_sge, std_slen, std_sget, std_scut, std_ofNat, std_toNat, std_nsub, std_nadd, std_lenOf, std_nz, std_nneg, std_inb, std_upto, std_slt63, std_grow, std_imp, std_impN, std_tr, std_tb, std_ti, std_ts, std_tn, std_tp, std_nmin, std_makes, std_room, std_zeros, std_nilq, std_notq, std_eqi, std_eqn, std_eqb, std_eqs, std_eqv, std_cat, std_lst, std_rset, std_rcopy, std_shift, std_eqr, std_strOf, std_bytesOf, std_isB, std_zOf, zOf_int, std_isI, isI_int, std_getL, std_nmul, std_sOf, sOf_str, std_isS, isS_str, strOf_lit, lstOf_lit inj_eB, lstOf_lit inj_eZ, lstOf_lit inj_eBs, lstOf_lit inj_eS, isRow_lit, isB_lit, isRow_nil, lstOf_nil inj_eB, lstOf_nil inj_eZ, lstOf_nil inj_eBs, lstOf_nil inj_eS, lbapp2, rbapp2, hN] at *
         first
           | done
           | omega
           | (constructor <;> omega)
           | (have he : (nGo S F).e = 0 := by assumption
              have ht := lp_told hp he
              have h3 := ht.2.2
              simp only at h3
              first
                | omega
                | (exfalso; omega)
                | trace_state)
           | (exfalso
              rw [w64 (n := (L.length : Int) + (B.length : Int)) (by omega), w64 (by omega)] at hc
              omega)
           | (have hne : ¬(nGo S F).e = 0 := by assumption
              have h5 : (nGo S F).e = 5 → sec = true := by assumption
              rcases nGo_e (B := F) hS with he | he | he
              · exact absurd he hne
              · have q := lp_end hp he (h5 he)
                simp only at q
                simp [q.1, q.2.1, q.2.2.1, q.2.2.2, he]
                try omega
                try trace_state
              · have q := lp_broken hp he
                simp only at q
                simp [q.1, q.2.1, q.2.2.1, q.2.2.2, he]
                try omega
                try trace_state)
           | trace_state)
      | (have hw : IntKind.i64.wrap (IntKind.i64.wrap ((L.length : Int) + (B.length : Int)) + 4) = (L.length : Int) + (B.length : Int) + 4 := by
           rw [w64 (n := (L.length : Int) + (B.length : Int)) (by omega), w64 (by omega)]
         first
           | (have he : (nGo S F).e = 0 := by (subst hA; simp [-List.getD_eq_getElem?_getD, std_add, std_sub, std_mul, std_quo, std_rem, std_band, std_bor, std_bxor, std_shl, std_shr, std_eq, std_ne, std_lt, std_le, std_conv, std_not, std_beq, std_bne, std_ite, std_want, std_and2, std_sadd, std_seq, std_sne, std_slt, std_sle, std_sgt, std_sge, std_slen, std_sget, std_scut, std_ofNat, std_toNat, std_nsub, std_nadd, std_lenOf, std_nz, std_nneg, std_inb, std_upto, std_slt63, std_grow, std_imp, std_impN, std_tr, std_tb, std_ti, std_ts, std_tn, std_tp, std_nmin, std_makes, std_room, std_zeros, std_nilq, std_notq, std_eqi, std_eqn, std_eqb, std_eqs, std_eqv, std_cat, std_lst, std_rset, std_rcopy, std_shift, std_eqr, std_strOf, std_bytesOf, std_isB, std_zOf, zOf_int, std_isI, isI_int, std_getL, std_nmul, std_sOf, sOf_str, std_isS, isS_str, strOf_lit, lstOf_lit inj_eB, lstOf_lit inj_eZ, lstOf_lit inj_eBs, lstOf_lit inj_eS, isRow_lit, isB_lit, isRow_nil, lstOf_nil inj_eB, lstOf_nil inj_eZ, lstOf_nil inj_eBs, lstOf_nil inj_eS, lbapp2, rbapp2, hN] at *; assumption)
              have ht := lp_told hp he
              have hbr := ht.2.1
              have h3 := ht.2.2
              have hok := ht.1
              simp only at hbr h3 hok
              obtain ⟨i', hi'⟩ : ∃ i', i' = i + 1 := ⟨_, rfl⟩
              obtain ⟨S', hS'⟩ : ∃ S', S' = (nGo S F).rest := ⟨_, rfl⟩
              obtain ⟨G', hG'⟩ : ∃ G', G' = G ++ [(nGo S F).fr] := ⟨_, rfl⟩
              obtain ⟨F', hF'⟩ : ∃ F', F' = (nGo S F).left := ⟨_, rfl⟩
              rw [← hi', ← hS', ← hG', ← hF'] at hok
              refine ⟨⟨⟨i', S', G', F', sec⟩, hok⟩, ?_, show L.length + B.length + 4 - i' < L.length + B.length + 4 - i by omega⟩
              cbv
              subst hA
              simp [-List.getD_eq_getElem?_getD, std_add, std_sub, std_mul, std_quo, std_rem, std_band, std_bor, std_bxor, std_shl, std_shr, std_eq, std_ne, std_lt, std_le, std_conv, std_not, std_beq, std_bne, std_ite, std_want, std_and2, std_sadd, std_seq, std_sne, std_slt, std_sle, std_sgt, std_sge, std_slen, std_sget, std_scut, std_ofNat, std_toNat, std_nsub, std_nadd, std_lenOf, std_nz, std_nneg, std_inb, std_upto, std_slt63, std_grow, std_imp, std_impN, std_tr, std_tb, std_ti, std_ts, std_tn, std_tp, std_nmin, std_makes, std_room, std_zeros, std_nilq, std_notq, std_eqi, std_eqn, std_eqb, std_eqs, std_eqv, std_cat, std_lst, std_rset, std_rcopy, std_shift, std_eqr, std_strOf, std_bytesOf, std_isB, std_zOf, zOf_int, std_isI, isI_int, std_getL, std_nmul, std_sOf, sOf_str, std_isS, isS_str, strOf_lit, lstOf_lit inj_eB, lstOf_lit inj_eZ, lstOf_lit inj_eBs, lstOf_lit inj_eS, isRow_lit, isB_lit, isRow_nil, lstOf_nil inj_eB, lstOf_nil inj_eZ, lstOf_nil inj_eBs, lstOf_nil inj_eS, lbapp2, rbapp2, hN]
              repeat' (refine And.intro ?_ ?_)
              all_goals first
                | done
                | rfl
                | exact w_succ5 hi' (by omega)
                | (rw [hF']; done)
                | (rw [hF']; exact (Reps.lit _).eqr)
                | (rw [hS']; done)
                | (rw [hS']; exact (Reps.lit _).eqr)
                | exact hbr
                | (rw [hG']; simp; done)
                | exact snoc_row rfl (cell_eBs (Reps.lit _)) hG'.symm (by rw [hG']; simp)
                | exact cat0_row _ _
                | trace_state)
           | (have he : (nGo S F).e = 5 ∧ sec = false := by (subst hA; simp [-List.getD_eq_getElem?_getD, std_add, std_sub, std_mul, std_quo, std_rem, std_band, std_bor, std_bxor, std_shl, std_shr, std_eq, std_ne, std_lt, std_le, std_conv, std_not, std_beq, std_bne, std_ite, std_want, std_and2, std_sadd, std_seq, std_sne, std_slt, std_sle, std_sgt, std_sge, std_slen, std_sget, std_scut, std_ofNat, std_toNat, std_nsub, std_nadd, std_lenOf, std_nz, std_nneg, std_inb, std_upto, std_slt63, std_grow, std_imp, std_impN, std_tr, std_tb, std_ti, std_ts, std_tn, std_tp, std_nmin, std_makes, std_room, std_zeros, std_nilq, std_notq, std_eqi, std_eqn, std_eqb, std_eqs, std_eqv, std_cat, std_lst, std_rset, std_rcopy, std_shift, std_eqr, std_strOf, std_bytesOf, std_isB, std_zOf, zOf_int, std_isI, isI_int, std_getL, std_nmul, std_sOf, sOf_str, std_isS, isS_str, strOf_lit, lstOf_lit inj_eB, lstOf_lit inj_eZ, lstOf_lit inj_eBs, lstOf_lit inj_eS, isRow_lit, isB_lit, isRow_nil, lstOf_nil inj_eB, lstOf_nil inj_eZ, lstOf_nil inj_eBs, lstOf_nil inj_eS, lbapp2, rbapp2, hN] at *; assumption)
              have ht := lp_none hp (by omega) he.1 he.2
              have hbr := ht.2
              have hok := ht.1
              simp only at hbr hok
              obtain ⟨i', hi'⟩ : ∃ i', i' = i + 1 := ⟨_, rfl⟩
              obtain ⟨S', hS'⟩ : ∃ S', S' = (nGo S F).rest := ⟨_, rfl⟩
              rw [← hi', ← hS'] at hok
              have hil : i ≤ L.length + B.length := by
                have h2 := he.2
                subst h2
                simp [lpN] at hi
                omega
              refine ⟨⟨⟨i', S', G, B, true⟩, hok⟩, ?_, show L.length + B.length + 4 - i' < L.length + B.length + 4 - i by omega⟩
              cbv
              subst hA
              simp [-List.getD_eq_getElem?_getD, std_add, std_sub, std_mul, std_quo, std_rem, std_band, std_bor, std_bxor, std_shl, std_shr, std_eq, std_ne, std_lt, std_le, std_conv, std_not, std_beq, std_bne, std_ite, std_want, std_and2, std_sadd, std_seq, std_sne, std_slt, std_sle, std_sgt, std_sge, std_slen, std_sget, std_scut, std_ofNat, std_toNat, std_nsub, std_nadd, std_lenOf, std_nz, std_nneg, std_inb, std_upto, std_slt63, std_grow, std_imp, std_impN, std_tr, std_tb, std_ti, std_ts, std_tn, std_tp, std_nmin, std_makes, std_room, std_zeros, std_nilq, std_notq, std_eqi, std_eqn, std_eqb, std_eqs, std_eqv, std_cat, std_lst, std_rset, std_rcopy, std_shift, std_eqr, std_strOf, std_bytesOf, std_isB, std_zOf, zOf_int, std_isI, isI_int, std_getL, std_nmul, std_sOf, sOf_str, std_isS, isS_str, strOf_lit, lstOf_lit inj_eB, lstOf_lit inj_eZ, lstOf_lit inj_eBs, lstOf_lit inj_eS, isRow_lit, isB_lit, isRow_nil, lstOf_nil inj_eB, lstOf_nil inj_eZ, lstOf_nil inj_eBs, lstOf_nil inj_eS, lbapp2, rbapp2, hN]
              repeat' (refine And.intro ?_ ?_)
              all_goals first
                | done
                | rfl
                | exact w_succ5 hi' (by omega)
                | (rw [hS']; done)
                | (rw [hS']; exact (Reps.lit _).eqr)
                | exact hbr
                | exact cat0_row _ _
                | trace_state)
           | trace_state)
      | trace_state
end Go.Vd

set_option linter.unusedVariables false
namespace Go.Vd
open Go.Proofs Go.ChangeShapes Go.WideShapes Go.ChangeAt Go.RowKit Go.Joins Go.Deep Go.WideElems
theorem u16_wf {z : Int} (h : (Lit.int .u16 z).wf = true) : 0 ≤ z ∧ z < 65536 := by
  simp [Lit.wf] at h
  have e1 : IntKind.u16.min = 0 := by decide
  have e2 : IntKind.u16.max = 65535 := by decide
  rw [e1, e2] at h
  exact ⟨h.1, by omega⟩
section
variable {H : Type} {enc : TypeId × Value → H} {P : Program}
theorem open_eB_trod {W : World} {t e : TypeId} {v : Value} {fuel : Nat} {x : DataW H × List MemPlace} (ht : P.underlying t = some (.slice e)) (he : P.underlying e = some (.int .u8)) (hc : P.cellsOf e = 1)
    (h : DataW.trod enc P W 0 (fun _ => true) true fuel t [v] = some x) : ∃ L : List UInt8, L.length ≤ maxLen ∧ one v ∧ RelC W (fun _ => False) v (rowS eB 0 1 std fun _ => L) := by
  rcases open_ints ht he hc h with ⟨hcs, hx⟩ | ⟨a, len, cap, zs, hcs, _, hl, hm, hz, hx, hcell, hwz⟩
  · simp only [List.cons.injEq, and_true] at hcs
    subst hcs
    exact ⟨[], Nat.zero_le _, rfl, .slc none 0 0 1 _ (fun _ _ => undef) (Nat.le_refl _) (fun i j hi => absurd hi (by omega)) (fun h => absurd h (by omega)) (fun i j hi => absurd hi (by omega))⟩
  · simp only [List.cons.injEq, and_true] at hcs
    subst hcs
    simp only [if_true] at hz
    have hlen : ((zs.take len).map fun n => UInt8.ofNat n.toNat).length = len := by simp; omega
    refine ⟨(zs.take len).map fun n => UInt8.ofNat n.toNat, by rw [hlen]; omega, rfl, ?_⟩
    show RelC W (fun _ => False) _ (.slc ((zs.take len).map fun n => UInt8.ofNat n.toNat).length 1 (rowF eB 0 std fun _ => (zs.take len).map fun n => UInt8.ofNat n.toNat))
    rw [hlen]
    refine .slc (some a) len cap 1 _ (fun i _ => .int .u8 (zs.getD i 0)) hl (fun i j hi hj => ⟨a, rfl, ?_, rfl, fun h => h⟩) (fun h => ⟨a, rfl, ?_⟩) (fun i j hi hj => ?_)
    · rw [show i * 1 + j = i by omega]
      exact hcell i (by omega)
    · simpa [Addr.add] using World.cell?_spot (hcell 0 (by omega))
    · obtain rfl : j = 0 := by omega
      have hw := u8_wf (hwz (zs.getD i 0) (by rw [List.getD_eq_getElem?_getD, List.getElem?_eq_getElem (by omega)]; simp))
      have : (zs.getD i 0) = (((zs.take len).map fun n => UInt8.ofNat n.toNat).getD i 0).toNat := by
        rw [List.getD_eq_getElem?_getD, List.getD_eq_getElem?_getD, List.getElem?_map, List.getElem?_take_of_lt hi]
        rw [List.getD_eq_getElem?_getD] at hw
        rw [List.getElem?_eq_getElem (by omega)] at hw ⊢
        simp at hw ⊢
        omega
      show RelC W _ _ (SV.int .u8 _)
      rw [this]
      exact .int _ _
theorem array6 {α : Type} {cs : Array α} (h : cs.size = 6) : ∃ c0 c1 c2 c3 c4 c5, cs = #[c0, c1, c2, c3, c4, c5] := by
  obtain ⟨l⟩ := cs
  match l, h with
  | [c0, c1, c2, c3, c4, c5], _ => exact ⟨c0, c1, c2, c3, c4, c5, rfl⟩
theorem open_agg6 {W : World} {b0 base : Nat} {spare : Nat → Bool} {held : Bool} {r : Reach} {t : TypeId} {f0 f1 f2 f3 f4 f5 : Field} {v : Value} {d : DataW H} {p : List MemPlace} (hs : P.underlying t = some (.struct #[f0, f1, f2, f3, f4, f5])) (hone : oneCellFields P #[f0, f1, f2, f3, f4, f5] = true) (hC : P.cellsOf t = 6)
    (hv : Value.okWide P W r b0 t v) (h : DataW.Trod enc P W base spare held t v d p) :
    ∃ (v0 v1 v2 v3 v4 v5 : Value) (y0 y1 y2 y3 y4 y5 : DataW H × List MemPlace) (n : Nat), v = .agg #[v0, v1, v2, v3, v4, v5] ∧ d = .agg [y0.1, y1.1, y2.1, y3.1, y4.1, y5.1] ∧ p = y0.2 ++ (y1.2 ++ (y2.2 ++ (y3.2 ++ (y4.2 ++ y5.2)))) ∧
      DataW.trod enc P W base spare held n f0.type [v0] = some y0 ∧ DataW.trod enc P W base spare held n f1.type [v1] = some y1 ∧ DataW.trod enc P W base spare held n f2.type [v2] = some y2 ∧ DataW.trod enc P W base spare held n f3.type [v3] = some y3 ∧ DataW.trod enc P W base spare held n f4.type [v4] = some y4 ∧ DataW.trod enc P W base spare held n f5.type [v5] = some y5 := by
  obtain ⟨cs, rfl, hsz⟩ := okWide_struct hs hv
  obtain ⟨c0, c1, c2, c3, c4, c5, rfl⟩ := array6 (hsz.trans hC)
  obtain ⟨fuel, hf⟩ := h
  obtain ⟨xs, n, _, hx, hl, hlen, hf⟩ := DataW.trod_struct hs hf
  match xs, hlen with
  | [y0, y1, y2, y3, y4, y5], _ =>
    obtain ⟨o0, k0⟩ := hone_of hone 0 f0 rfl
    have h0 := hf 0 f0 rfl
    obtain ⟨o1, k1⟩ := hone_of hone 1 f1 rfl
    have h1 := hf 1 f1 rfl
    obtain ⟨o2, k2⟩ := hone_of hone 2 f2 rfl
    have h2 := hf 2 f2 rfl
    obtain ⟨o3, k3⟩ := hone_of hone 3 f3 rfl
    have h3 := hf 3 f3 rfl
    obtain ⟨o4, k4⟩ := hone_of hone 4 f4 rfl
    have h4 := hf 4 f4 rfl
    obtain ⟨o5, k5⟩ := hone_of hone 5 f5 rfl
    have h5 := hf 5 f5 rfl
    simp only [Prod.mk.injEq] at hx
    exact ⟨c0, c1, c2, c3, c4, c5, y0, y1, y2, y3, y4, y5, n, rfl, by simpa using hx.1, by simpa using hx.2, by simpa [Value.cells, o0, k0] using h0, by simpa [Value.cells, o1, k1] using h1, by simpa [Value.cells, o2, k2] using h2, by simpa [Value.cells, o3, k3] using h3, by simpa [Value.cells, o4, k4] using h4, by simpa [Value.cells, o5, k5] using h5⟩
theorem rel_agg6 {w : World} {ρ : Nat → Value} {rw N : Nat → Prop} {u0 u1 u2 u3 u4 u5 : Value} {s0 s1 s2 s3 s4 s5 : SV} (h0 : one u0) (h1 : one u1) (h2 : one u2) (h3 : one u3) (h4 : one u4) (h5 : one u5)
    (r0 : Rel w ρ rw N u0 s0) (r1 : Rel w ρ rw N u1 s1) (r2 : Rel w ρ rw N u2 s2) (r3 : Rel w ρ rw N u3 s3) (r4 : Rel w ρ rw N u4 s4) (r5 : Rel w ρ rw N u5 s5) : Rel w ρ rw N (.agg #[u0, u1, u2, u3, u4, u5]) (.agg [s0, s1, s2, s3, s4, s5]) := by
  refine .agg _ _ rfl ?_ ?_
  · intro v hv
    simp at hv
    rcases hv with rfl | rfl | rfl | rfl | rfl | rfl <;> assumption
  · intro i v s hv hs
    match i with
    | 0 => simp at hv hs; subst hv hs; exact r0
    | 1 => simp at hv hs; subst hv hs; exact r1
    | 2 => simp at hv hs; subst hv hs; exact r2
    | 3 => simp at hv hs; subst hv hs; exact r3
    | 4 => simp at hv hs; subst hv hs; exact r4
    | 5 => simp at hv hs; subst hv hs; exact r5
    | n + 6 => simp at hv
theorem u32_wf {z : Int} (h : (Lit.int .u32 z).wf = true) : 0 ≤ z ∧ z < 4294967296 := by
  simp [Lit.wf] at h
  have e1 : IntKind.u32.min = 0 := by decide
  have e2 : IntKind.u32.max = 4294967295 := by decide
  rw [e1, e2] at h
  exact ⟨h.1, by omega⟩
end
end Go.Vd

set_option linter.unusedVariables false
namespace Go.Vd
theorem u64_wf {z : Int} (h : (Lit.int .u64 z).wf = true) : 0 ≤ z ∧ z < 18446744073709551616 := by
  simp [Lit.wf] at h
  have e1 : IntKind.u64.min = 0 := by decide
  have e2 : IntKind.u64.max = 18446744073709551615 := by decide
  rw [e1, e2] at h
  omega
theorem i64_wf {z : Int} (h : (Lit.int .i64 z).wf = true) : -9223372036854775808 ≤ z ∧ z < 9223372036854775808 := by
  simp [Lit.wf] at h
  have e1 : IntKind.i64.min = -9223372036854775808 := by decide
  have e2 : IntKind.i64.max = 9223372036854775807 := by decide
  (try rw [e1] at h)
  (try rw [e2] at h)
  omega
theorem i16_wf {z : Int} (h : (Lit.int .i16 z).wf = true) : -32768 ≤ z ∧ z < 32768 := by
  simp [Lit.wf] at h
  have e1 : IntKind.i16.min = -32768 := by decide
  have e2 : IntKind.i16.max = 32767 := by decide
  (try rw [e1] at h)
  (try rw [e2] at h)
  omega
section
open Go.Proofs Go.ChangeShapes Go.WideShapes Go.ChangeAt Go.RowKit Go.Joins
variable {H : Type} {enc : TypeId × Value → H} {P : Program} {w : World} {base : Nat} {spare : Nat → Bool} {held : Bool}
theorem trodAll_five {t0 t1 t2 t3 t4 : TypeId} {args : Array Value} {ds : List (DataW H)} {ps : List MemPlace} (h : DataW.TrodAll enc P w base spare held [t0, t1, t2, t3, t4] args.toList ds ps) :
    ∃ v0 v1 v2 v3 v4 d0 d1 d2 d3 d4 p0 p1 p2 p3 p4, args = #[v0, v1, v2, v3, v4] ∧ ds = [d0, d1, d2, d3, d4] ∧ ps = p0 ++ p1 ++ p2 ++ p3 ++ p4 ∧ DataW.Trod enc P w base spare held t0 v0 d0 p0 ∧ DataW.Trod enc P w base spare held t1 v1 d1 p1 ∧ DataW.Trod enc P w base spare held t2 v2 d2 p2 ∧ DataW.Trod enc P w base spare held t3 v3 d3 p3 ∧ DataW.Trod enc P w base spare held t4 v4 d4 p4 := by
  obtain ⟨v0, vs0, d0, ds0, p0, q0, hargs, rfl, rfl, hd0, r0⟩ := trodAll_cons h
  obtain ⟨v1, vs1, d1, ds1, p1, q1, rfl, rfl, rfl, hd1, r1⟩ := trodAll_cons r0
  obtain ⟨v2, vs2, d2, ds2, p2, q2, rfl, rfl, rfl, hd2, r2⟩ := trodAll_cons r1
  obtain ⟨v3, vs3, d3, ds3, p3, q3, rfl, rfl, rfl, hd3, r3⟩ := trodAll_cons r2
  obtain ⟨v4, vs4, d4, ds4, p4, q4, rfl, rfl, rfl, hd4, r4⟩ := trodAll_cons r3
  obtain ⟨rfl, rfl, rfl⟩ := trodAll_nil r4
  exact ⟨v0, v1, v2, v3, v4, d0, d1, d2, d3, d4, p0, p1, p2, p3, p4, by cases args; simp_all, rfl, by simp, hd0, hd1, hd2, hd3, hd4⟩
end
end Go.Vd

set_option linter.unusedVariables false
set_option maxRecDepth 100000
namespace Go.Vd
open Go.Proofs Go.ChangeShapes Go.WideShapes Go.ChangeAt Go.RowKit Go.Joins Go.Deep Go.WideElems
section
variable {H : Type} {enc : TypeId × Value → H} {P : Program} {w : World} {base : Nat} {sp : Nat → Bool} {held : Bool}
/-- A struct of three numbers, as it is read. -/
theorem trod3 {fuel : Nat} {e : TypeId} {f0 f1 f2 : Field} {cs : List Value} {a b c : Int} {p : List MemPlace} (hs : P.underlying e = some (.struct #[f0, f1, f2])) (hone : oneCellFields P #[f0, f1, f2] = true)
    (h0 : P.underlying f0.type = some (.int .i64)) (h1 : P.underlying f1.type = some (.int .i64)) (h2 : P.underlying f2.type = some (.int .i64)) (hC : P.cellsOf e = 3)
    (h : DataW.trod enc P w base sp held fuel e cs = some (.agg [.lit (.int .i64 a), .lit (.int .i64 b), .lit (.int .i64 c)], p)) : cs = [.int .i64 a, .int .i64 b, .int .i64 c] := by
  obtain ⟨xs, n, _, hx, hl, hlen, hf⟩ := DataW.trod_struct hs h
  rw [hC] at hl
  match xs, hlen with
  | [y0, y1, y2], _ =>
    match cs, hl with
    | [c0, c1, c2], _ =>
      obtain ⟨o0, k0⟩ := hone_of hone 0 f0 rfl
      have g0 := hf 0 f0 rfl
      obtain ⟨o1, k1⟩ := hone_of hone 1 f1 rfl
      have g1 := hf 1 f1 rfl
      obtain ⟨o2, k2⟩ := hone_of hone 2 f2 rfl
      have g2 := hf 2 f2 rfl
      rw [o0, k0] at g0
      rw [o1, k1] at g1
      rw [o2, k2] at g2
      obtain ⟨z0, e0, i0, _⟩ := DataW.trod_int h0 g0
      obtain ⟨z1, e1, i1, _⟩ := DataW.trod_int h1 g1
      obtain ⟨z2, e2, i2, _⟩ := DataW.trod_int h2 g2
      simp only [Prod.mk.injEq] at hx
      have hx1 := hx.1
      simp at e0 e1 e2
      subst i0 i1 i2
      simp at hx1
      obtain ⟨r0, r1, r2⟩ := hx1
      subst r0 r1 r2 e0 e1 e2
      rfl
/-- A row of such. -/
theorem cells_of_known {fuel n : Nat} {t e : TypeId} {f0 f1 f2 : Field} {cs : List Value} {L : List (Int × Int × Int)} {p : List MemPlace} (ht : P.underlying t = some (.array n e)) (hs : P.underlying e = some (.struct #[f0, f1, f2])) (hone : oneCellFields P #[f0, f1, f2] = true)
    (h0 : P.underlying f0.type = some (.int .i64)) (h1 : P.underlying f1.type = some (.int .i64)) (h2 : P.underlying f2.type = some (.int .i64)) (hC : P.cellsOf e = 3)
    (h : DataW.trod enc P w base sp held fuel t cs = some (.agg (L.map fun x => .agg [.lit (.int .i64 x.1), .lit (.int .i64 x.2.1), .lit (.int .i64 x.2.2)]), p)) :
    cs.length = P.cellsOf t ∧ L.length = n ∧ ∀ i x, L[i]? = some x → (cs.drop (i * 3)).take 3 = [.int .i64 x.1, .int .i64 x.2.1, .int .i64 x.2.2] := by
  obtain ⟨xs, m, _, hx, hl, hlen, hf⟩ := DataW.trod_array ht h
  simp only [Prod.mk.injEq] at hx
  have hx1 : L.map (fun x => (DataW.agg [.lit (.int .i64 x.1), .lit (.int .i64 x.2.1), .lit (.int .i64 x.2.2)] : DataW H)) = xs.map (·.1) := by simpa using hx.1
  have hLl : L.length = n := by
    have := congrArg List.length hx1
    simp at this
    omega
  refine ⟨hl, hLl, fun i x hi => ?_⟩
  have hin : i < n := by
    rw [← hLl]
    exact (List.getElem?_eq_some_iff.1 hi).1
  have g := hf i hin
  rw [hC] at g
  have hxi : xs[i]? = some xs[i] := List.getElem?_eq_getElem (by omega)
  rw [hxi] at g
  have h3 : (DataW.agg [.lit (.int .i64 x.1), .lit (.int .i64 x.2.1), .lit (.int .i64 x.2.2)] : DataW H) = xs[i].1 := by
    have := congrArg (·[i]?) hx1
    simp [hi, hxi] at this
    exact this
  have g' : DataW.trod enc P w base sp held m e ((cs.drop (i * 3)).take 3) = some (.agg [.lit (.int .i64 x.1), .lit (.int .i64 x.2.1), .lit (.int .i64 x.2.2)], xs[i].2) := by
    rw [g, h3]
  exact trod3 hs hone h0 h1 h2 hC g'
end
def knownT : List (Int × Int × Int) := [(2, 3, 19), (3, 1, 6), (4, 1, 12), (7, 1, 10), (11, 1, 6), (12, 1, 6), (37, 2, 12), (38, 2, 6), (39, 2, 2), (41, 2, 8), (44, 4, 25), (48, 5, 999), (49, 1, 3), (90, 1, 42), (120, 5, 999)]
theorem gKnown : Tryz.prog.globalNamed "paydesk/field.known" = some 1 := by kernel_rfl
/-- What is known of the fields' own variable. -/
def KnownIs (w : World) : Prop := ∃ cs, w.var? Tryz.prog "paydesk/field.known" = some cs ∧ cs.size = 45 ∧ ∀ j, j < 45 → cs[j]? = some (.int .i64 (knownL.getD j 0))
theorem known_at : ∀ j, j < 45 → ∃ x, knownT[j / 3]? = some x ∧ ([x.1, x.2.1, x.2.2] : List Int)[j % 3]? = some (knownL.getD j 0) := by
  intro j hj
  have h : ∀ j : Fin 45, ∃ x : Fin 15, knownT[j.val / 3]? = knownT[x.val]? ∧ ((knownT[x.val]?).bind fun x => ([x.1, x.2.1, x.2.2] : List Int)[j.val % 3]?) = some (knownL.getD j.val 0) := by decide +kernel
  obtain ⟨x, h1, h2⟩ := h ⟨j, hj⟩
  simp only at h1 h2
  rw [← h1] at h2
  obtain ⟨y, h3, h4⟩ := Option.bind_eq_some_iff.1 h2
  exact ⟨y, h3, h4⟩
theorem gTypes : Tryz.prog.globalNamed "paydesk/deal.types" = some 0 := by kernel_rfl
def TypesIs (w : World) : Prop := ∃ cs, w.var? Tryz.prog "paydesk/deal.types" = some cs ∧ cs.size = 7 ∧ ∀ j, j < 7 → cs[j]? = some (.string ⟨(typesL.getD j []).toArray⟩)
section
variable {H : Type} {enc : TypeId × Value → H} {P : Program} {w : World} {base : Nat} {sp : Nat → Bool} {held : Bool}
theorem cells_of_types {fuel n : Nat} {t e : TypeId} {cs : List Value} {L : List (List UInt8)} {p : List MemPlace} (ht : P.underlying t = some (.array n e)) (he : P.underlying e = some .string) (hC : P.cellsOf e = 1)
    (h : DataW.trod enc P w base sp held fuel t cs = some (.agg (L.map fun x => .lit (.string x)), p)) :
    cs.length = P.cellsOf t ∧ L.length = n ∧ ∀ (i : Nat) (x : List UInt8), L[i]? = some x → cs[i]? = some (.string ⟨x.toArray⟩) := by
  obtain ⟨xs, m, _, hx, hl, hlen, hf⟩ := DataW.trod_array ht h
  simp only [Prod.mk.injEq] at hx
  have hx1 : L.map (fun x => (DataW.lit (.string x) : DataW H)) = xs.map (·.1) := by simpa using hx.1
  have hLl : L.length = n := by
    have := congrArg List.length hx1
    simp at this
    omega
  refine ⟨hl, hLl, fun i x hi => ?_⟩
  have hin : i < n := by
    rw [← hLl]
    exact (List.getElem?_eq_some_iff.1 hi).1
  have g := hf i hin
  rw [hC] at g
  have hxi : xs[i]? = some xs[i] := List.getElem?_eq_getElem (by omega)
  rw [hxi] at g
  have h3 : (DataW.lit (.string x) : DataW H) = xs[i].1 := by
    have := congrArg (·[i]?) hx1
    simp [hi, hxi] at this
    exact this
  obtain ⟨s, e1, e2, _⟩ := DataW.trod_string he g
  have e3 : (DataW.lit (.string x) : DataW H) = .lit (.string s.data.toList) := h3.trans (congrArg Prod.fst e2)
  injection e3 with e3
  injection e3 with e3
  have e4 := congrArg (·[0]?) e1
  simp [List.getElem?_drop] at e4
  rw [e4, e3]
end
/-- What the tables give of the package's variables. -/
theorem gl0_all {w : World} (hh : Lib.TabIs Tryz.prog w "internal/strconv.uint64pow10" .u64 Lib.pow10Tab ∧ KnownIs w ∧ TypesIs w) : GlOk gl0 w fun _ => False := by
  obtain ⟨h, ⟨cs0, hv0, hz0, hc0⟩, cs1, hv1, hz1, hc1⟩ := hh
  have hne : ∀ g, g ≠ 1 → g ≠ 0 → g ≠ 2 → gl0 g = .val (.pointer (some ⟨g, 0, none⟩)) := fun g hg hg0 hg1 => by
    unfold gl0
    split
    · first | exact absurd rfl hg0 | exact absurd rfl hg | exact absurd rfl hg1
    · first | exact absurd rfl hg0 | exact absurd rfl hg | exact absurd rfl hg1
    · first | exact absurd rfl hg0 | exact absurd rfl hg | exact absurd rfl hg1
    · rfl
  refine ⟨fun g ρ N => ?_, fun g k f e => ?_⟩
  · by_cases hg : g = 0
    · subst hg
      show Rel w ρ (fun _ => False) N _ (.rop 7 fun j => .str (typesL.getD j []))
      refine .rop ⟨0, 0, none⟩ 7 _ (fun j => .string ⟨(typesL.getD j []).toArray⟩) rfl (fun j hj => ⟨?_, rfl, fun e => e⟩) (fun j _ => by have := RelC.str (w := w) (rw := fun _ => False) ⟨(typesL.getD j []).toArray⟩; simpa using this)
      rw [Lib.add_plain, Nat.zero_add, World.var?_cell gTypes hv1]
      exact hc1 j hj
    · by_cases hg0 : g = 1
      · subst hg0
        show Rel w ρ (fun _ => False) N _ (.rop 45 fun j => .int .i64 (knownL.getD j 0))
        refine .rop ⟨1, 0, none⟩ 45 _ (fun j => .int .i64 (knownL.getD j 0)) rfl (fun j hj => ⟨?_, rfl, fun e => e⟩) (fun j _ => .int _ _)
        rw [Lib.add_plain, Nat.zero_add, World.var?_cell gKnown hv0]
        exact hc0 j hj
      · by_cases hg1 : g = 2
        · subst hg1
          show Rel w ρ (fun _ => False) N _ (.rop 20 fun j => .int .u64 (Lib.pow10Tab.getD j 0))
          refine .rop ⟨2, 0, none⟩ 20 _ (fun j => .int .u64 (Lib.pow10Tab.getD j 0)) rfl (fun j hj => ⟨?_, rfl, fun e => e⟩) (fun j _ => .int _ _)
          rw [Lib.add_plain, Nat.zero_add]
          exact h.cell gTab j (by rw [Lib.pow10Tab_length]; exact hj)
        · rw [hne g hg0 hg hg1]; exact .val _
  · by_cases hg : g = 0
    · subst hg
      have e2 : (SV.rop 7 fun j => .str (typesL.getD j [])) = .rop k f := e
      cases e2
      refine ⟨?_, fun e => e⟩
      unfold World.var? at hv1
      rw [gTypes] at hv1
      simp only [Option.bind_some] at hv1
      split at hv1
      · rename_i cs t b hc
        injection hv1 with hv1
        exact ⟨cs, t, b, hc, by rw [hv1]; exact hz1⟩
      · cases hv1
    · by_cases hg0 : g = 1
      · subst hg0
        have e2 : (SV.rop 45 fun j => .int .i64 (knownL.getD j 0)) = .rop k f := e
        cases e2
        refine ⟨?_, fun e => e⟩
        unfold World.var? at hv0
        rw [gKnown] at hv0
        simp only [Option.bind_some] at hv0
        split at hv0
        · rename_i cs t b hc
          injection hv0 with hv0
          exact ⟨cs, t, b, hc, by rw [hv0]; exact hz0⟩
        · cases hv0
      · by_cases hg1 : g = 2
        · subst hg1
          have e2 : (SV.rop 20 fun j => .int .u64 (Lib.pow10Tab.getD j 0)) = .rop k f := e
          cases e2
          refine ⟨?_, fun e => e⟩
          unfold Lib.TabIs World.var? at h
          rw [gTab] at h
          simp only [Option.bind_some] at h
          split at h
          · rename_i cs t b hc
            injection h with h
            exact ⟨cs, t, b, hc, by rw [h]; simp [Lib.pow10Tab_length]⟩
          · cases h
        · rw [hne g hg0 hg hg1] at e; cases e
end Go.Vd
namespace Go.Proofs.YtakcggldilbilaaGreatDoor
open Go.ChangeShapes Go.WideShapes Go.ChangeAt Go.ChangeMaps Go.RowKit Go.Joins
def laidL : List (String × DataW Unit) := [("math/bits.deBruijn32tab", Rows.laid_math_bits_deBruijn32tab), ("math/bits.deBruijn64tab", Rows.laid_math_bits_deBruijn64tab), ("internal/strconv.uint64pow10", Rows.laid_internal_strconv_uint64pow10), ("paydesk/field.known", Rows.laid_paydesk_field_known), ("paydesk/deal.types", Rows.laid_paydesk_deal_types)]
theorem Tryz.own : ownKnob Tryz.prog.godebug = none := by kernel_rfl
theorem Tryz.laidOut : laidOutB Tryz.prog = true := by kernel_rfl
theorem tTab : (Tryz.prog.globals[2]?).map (·.type) = some 234 := by kernel_rfl
theorem cTab : Tryz.prog.cellsOf 234 = 20 := by kernel_rfl
theorem cTabE : Tryz.prog.cellsOf 26 = 1 := by kernel_rfl
theorem dTab : (Rows.laid_internal_strconv_uint64pow10 : DataW Unit) = Lib.tabData .u64 Lib.pow10Tab := by kernel_rfl
theorem tKn : (Tryz.prog.globals[1]?).map (·.type) = some 186 := by kernel_rfl
theorem cKn : Tryz.prog.cellsOf 186 = 45 := by kernel_rfl
theorem cKnE : Tryz.prog.cellsOf 152 = 3 := by kernel_rfl
theorem dKn : (Rows.laid_paydesk_field_known : DataW Unit) = .agg (Vd.knownT.map fun x => .agg [.lit (.int .i64 x.1), .lit (.int .i64 x.2.1), .lit (.int .i64 x.2.2)]) := by kernel_rfl
theorem tTy : (Tryz.prog.globals[0]?).map (·.type) = some 102 := by kernel_rfl
theorem cTy : Tryz.prog.cellsOf 102 = 7 := by kernel_rfl
theorem cTyE : Tryz.prog.cellsOf 9 = 1 := by kernel_rfl
theorem dTy : (Rows.laid_paydesk_deal_types : DataW Unit) = .agg (Vd.typesL.map fun x => .lit (.string x)) := by kernel_rfl
theorem door_met (os : Os) (args : Array Value) : laidMetH Tryz.prog laidL ((World.doorLaid Tryz.prog 2000 os).forCall (fun _ _ => 0) ⟨#[], args, []⟩).memory :=
  laidMetH_of_parts3 (fuel := 8) (laidMet_of_run' 8 (by kernel_rfl) (by kernel_rfl)) (by kernel_rfl) (by kernel_rfl)
theorem laid_known {W : World} (h : laidMetH Tryz.prog laidL W) : Lib.TabIs Tryz.prog W "internal/strconv.uint64pow10" .u64 Lib.pow10Tab ∧ Vd.KnownIs W ∧ Vd.TypesIs W := by
  rw [MakeChecks.laidMetH_plain _ _ _ (by kernel_rfl)] at h
  obtain ⟨ps, ⟨_, _, _, _, _, _, _, _, _, _, ⟨_, _, _, _, _, _, _, _, _, _, ⟨g2, t2, cs2, f2, p2, q2, hg2, ht2, hv2, hd2, ⟨g3, t3, cs3, f3, p3, q3, hg3, ht3, hv3, hd3, ⟨g4, t4, cs4, f4, p4, q4, hg4, ht4, hv4, hd4, _, _⟩, _⟩, _⟩, _⟩, _⟩, _, _⟩ := h
  refine ⟨?_, ?_, ?_⟩
  · obtain rfl := Option.some.inj (Vd.gTab.symm.trans hg2)
    obtain rfl := Option.some.inj (tTab.symm.trans ht2)
    unfold Lib.TabIs
    rw [dTab] at hd2
    rw [hv2, ← Lib.cells_of_tab Tryz.underlying234 Tryz.underlying26 cTabE cTab hd2]
  · obtain rfl := Option.some.inj (Vd.gKnown.symm.trans hg3)
    obtain rfl := Option.some.inj (tKn.symm.trans ht3)
    rw [dKn] at hd3
    obtain ⟨hl, hn, hx⟩ := Vd.cells_of_known Tryz.underlying186 Tryz.underlying152 (by kernel_rfl) Tryz.underlying3 Tryz.underlying3 Tryz.underlying3 cKnE hd3
    rw [cKn] at hl
    refine ⟨cs3, hv3, by simpa using hl, fun j hj => ?_⟩
    obtain ⟨x, h1, h2⟩ := Vd.known_at j hj
    have h3 := hx _ x h1
    have h4 := congrArg (·[j % 3]?) h3

    rw [List.getElem?_take_of_lt (by omega), List.getElem?_drop, show j / 3 * 3 + j % 3 = j by omega] at h4
    rw [← Array.getElem?_toList, h4]
    have h5 := congrArg (Option.map (Value.int .i64)) h2
    rw [← List.getElem?_map] at h5
    exact h5
  · obtain rfl := Option.some.inj (Vd.gTypes.symm.trans hg4)
    obtain rfl := Option.some.inj (tTy.symm.trans ht4)
    rw [dTy] at hd4
    obtain ⟨hl, hn, hx⟩ := Vd.cells_of_types Tryz.underlying102 Tryz.underlying9 cTyE hd4
    rw [cTy] at hl
    refine ⟨cs4, hv4, by simpa using hl, fun j hj => ?_⟩
    rw [← Array.getElem?_toList]
    refine hx j _ ?_
    rw [List.getD_eq_getElem?_getD, List.getElem?_eq_getElem (by exact hj)]
    rfl
end Go.Proofs.YtakcggldilbilaaGreatDoor

